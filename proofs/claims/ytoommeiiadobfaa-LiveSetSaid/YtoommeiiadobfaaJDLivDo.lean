/- Which registers are live: what is brought from a place: the closure of the program's ahead. -/
import Derived.Test.YtoommeiiadobfaaDM14
import Derived.Test.YtoommeiiadobfaaJDFlwWebOf
import Derived.Deep.RegionHeld3
import Derived.Deep.Cut
import Derived.Deep.CutRange
import Derived.Test.YtoommeiiadobfaaDM5
namespace Go.Proofs.Ytoommeiiadobfaa
open Go.RowKit Go
attribute [local go_sem] Oper.semAt_some
set_option linter.unusedVariables false
set_option linter.unusedSimpArgs false
def lwN (n F : Nat) (Us : List (List Int)) (Ds : List Int) (Ps Th Cs : List (List Int)) : LwN := ⟨n, fun i => regM F (Us.getD i []), fun i => regM F [Ds.getD i 0], fun i => Ps.getD i [], fun i => Cs.getD i [], fun i => Th.getD i []⟩
theorem getD_of {α : Type} {l : List α} {i : Nat} {a d : α} (h : l[i]? = some a) : l.getD i d = a := by simp [List.getD, h]
theorem lit_rd (w : World) (d : Int) : RdX Tru 1 NuE (w.alloc (.cells #[.int .i64 d] 3)) (.slice (some ⟨w.heap.size, 0, none⟩) 1 1) [d] := by
 refine ⟨_, _, rfl, fun e => (by cases e), by simp, fun i a hi => ?_⟩
 cases i with
 | succ i => simp at hi
 | zero =>
  simp at hi
  subst hi
  refine ⟨w.heap.size, 0, [.int .i64 d], rfl, trivial, rfl, fun j u hj => ?_⟩
  cases j with
  | succ j => simp at hj
  | zero =>
   simp at hj
   subst hj
   exact heap_cell (heap_alloc_new w _) rfl
def DoX (n S : Nat) (UA DA NA PA TA CA : Option Addr) (uc dc nc pc tc cc WX LX RX TX G R TW : Nat) (w0 wr : World) : Prop := wr.heap[WX]? = some (.cells #[.slice UA n uc, .slice DA n dc, .slice NA n nc, .slice PA n pc, .slice TA S tc, .slice CA n cc] 45 (0, 0)) ∧ wr.heap[LX]? = some (.cells #[.slice (some ⟨G, 0, none⟩) n n] 50 (0, 0)) ∧ wr.heap[RX]? = some (.cells #[.slice (some ⟨R, 0, none⟩) n n] 50 (0, 0)) ∧ wr.heap[TX]? = some (.cells #[.slice (some ⟨TW, 0, none⟩) S S] 50 (0, 0)) ∧ Below w0.heap.size w0 wr
def DoOut (wd : World) (LB WB TB G H R TW B n S : Nat) (wm : Nat → Mk) (LW : LwN) (Z : Nat) (e : Ending) (w' : World) : Prop := e = .returned (.tuple #[]) ∧ ∃ (m' : Nat → Mk) (W' : Nat → Bool) (T' : List Nat) (tm' : Nat → Mk), LvS wd LB WB TB G H R TW B n S m' W' T' wm tm' w' ∧ LvI LW LW.n m' tm' T' ∧ 2 * zerS n m' + T'.length ≤ Z
set_option maxHeartbeats 32000000 in
set_option maxRecDepth 100000 in
theorem do_l (n S i : Nat) (Ps Th Cs : List (List Int)) (UA DA NA PA TA CA : Option Addr) (uc dc nc pc tc cc WX LX RX TX LB WB TB G H R TW B : Nat) (LW : LwN) (w0 wd wr : World) (m : Nat → Mk) (W : Nat → Bool) (T : List Nat) (wm tm : Nat → Mk) (hP : Hid (RdX Tru 1 (LsE Tru) w0 (.slice PA n pc) Ps)) (hT : Hid (RdX Tru 1 (LsE Tru) w0 (.slice TA S tc) Th)) (hCs : Hid (RdX Tru 1 (LsE Tru) w0 (.slice CA n cc) Cs))
    (hlen : Hid (Ps.length = n ∧ Th.length = S ∧ Cs.length = n)) (hb : Hid (n * 2048 ≤ 140737488355328 ∧ S * 1024 ≤ 140737488355328)) (hel : Hid ((∀ l ∈ Ps, ∀ z ∈ l, ∃ j : Nat, z = j ∧ j < n) ∧ (∀ l ∈ Th, ∀ z ∈ l, ∃ j : Nat, z = j ∧ j < n) ∧ (∀ l ∈ Cs, ∀ z ∈ l, ∃ s : Nat, z = s ∧ s < S)))
    (HLN : Hid (LW.n = n)) (HLW : Hid ((∀ i, LW.pr i = Ps.getD i []) ∧ (∀ i, LW.ca i = Cs.getD i []) ∧ ∀ i, LW.th i = Th.getD i [])) (HWF : Hid (∀ j, j < n → wm j = LW.wr j))
    (HCX : Hid (∀ (m : Nat → Mk) (W : Nat → Bool) (T : List Nat) (tm : Nat → Mk) (wr : World), LvS wd LB WB TB G H R TW B n S m W T wm tm wr → DoX n S UA DA NA PA TA CA uc dc nc pc tc cc WX LX RX TX G R TW w0 wr))
    (hiN : Hid (i < n)) (HS3 : Hid (LvS wd LB WB TB G H R TW B n S m W T wm tm wr)) (HI : Hid (Lv1 LW i [] m tm T)) (HZ : Hid (2 * zerS n m + T.length + 1 ≤ 256 * n)) :
    Calls Try.prog 56 #[.int .i64 (i : Int), .func (.func 91) #[] #[.pointer (some ⟨LB, 0, none⟩), .pointer (some ⟨WB, 0, none⟩), .pointer (some ⟨TB, 0, none⟩)], .pointer (some ⟨WX, 0, none⟩), .pointer (some ⟨LX, 0, none⟩), .pointer (some ⟨RX, 0, none⟩), .pointer (some ⟨TX, 0, none⟩)] wr fun e w' => DoOut wd LB WB TB G H R TW B n S wm LW (2 * zerS n m + T.length) e w' := by
  obtain ⟨hwx, hlx, hrx, htx, hbw⟩ := HCX.out _ _ _ _ _ HS3.out
  have HNT : Hid (LX ≠ TW ∧ TX ≠ TW) := by
    obtain ⟨ct, ht1, _⟩ := HS3.out.thr
    exact lhid ⟨blk_ne hlx ht1 (by decide), blk_ne htx ht1 (by decide)⟩
  have hin := hiN.out
  have k4 : (i : Int) < n := by omega
  obtain ⟨lp, hlp⟩ : ∃ l, Ps[i]? = some l := ⟨_, List.getElem?_eq_getElem (by have := hlen.out; omega)⟩
  obtain ⟨gp, op, PA2, pc2, hPA, c0, hrp⟩ := ls_cell (hP.out) hlp
  subst hPA
  replace c0 := (hbw.cell (cell_lt c0)).trans c0
  have hgp := cell_lt c0
  have q3' := heap_cell (i := 3) hwx rfl
  have HLP := lhid hlp
  have HRLP := lhid hrp
  have HLPL : Hid (lp.length ≤ 140737488355328) := lhid hrp.len
  have HPRI : Hid (LW.pr i = lp) := lhid (by rw [HLW.out.1]; exact getD_of hlp)
  clear hwx hlx hrx htx hbw hlp hrp
  obtain ⟨Z0, hZ0⟩ : ∃ Z0, 2 * zerS n m + T.length = Z0 := ⟨_, rfl⟩
  have HZ0 : Hid (2 * zerS n m + T.length = Z0 ∧ Z0 + 1 ≤ 256 * n) := lhid ⟨hZ0, by have := HZ.out; omega⟩
  rw [hZ0]
  have HZ3 : Hid (2 * zerS n m + T.length ≤ Z0) := lhid (by omega)
  clear hZ0
  go_enter Try.func56, Try.ntmps56
  go_wp2_with fail
  clear c0 hgp q3'
  go_loopg [20] lp.length (fun g s wq => ∃ (k : Nat) (m2 : Nat → Mk) (W2 : Nat → Bool) (T2 : List Nat), g = lp.length - k ∧ s = .int .i64 k ∧ k ≤ lp.length ∧ Hid (2 * zerS n m2 + T2.length ≤ Z0) ∧ Hid (LvS wd LB WB TB G H R TW B n S m2 W2 T2 wm tm wq) ∧ Hid (Lv1 LW i (lp.take k) m2 tm T2))
  case atStart => exact ⟨0, m, W, T, rfl, rfl, Nat.zero_le _, HZ3, HS3, lhid (by rw [List.take_zero]; exact HI.out)⟩
  case round =>
    clear HS3 HI HZ3
    obtain ⟨k, m2, W2, T2, rfl, rfl, hk, HZ2, HS2, HI2⟩ := hrel
    by_cases hlt : k < lp.length
    · as_aux_lemma =>
        have k3 : (k : Int) < lp.length := by omega
        have hwk : wrap64 ((k : Int) + 1) = ((k + 1 : Nat) : Int) := by rw [IntWalk.wrap64_in _ (by have := HLPL.out; omega)]; omega
        obtain ⟨p, hp⟩ : ∃ p, lp[k]? = some p := ⟨_, List.getElem?_eq_getElem hlt⟩
        obtain ⟨j, hj, hjn⟩ := hel.out.1 lp (List.mem_of_getElem? HLP.out) p (List.mem_of_getElem? hp)
        subst hj
        obtain ⟨hwx, hlx, hrx, htx, hbw⟩ := HCX.out _ _ _ _ _ HS2.out
        obtain ⟨gl, ol, hLA, c0⟩ := nu_cell (HRLP.out.below (keptX_nu _) hbw) hp
        subst hLA
        have hgl := cell_lt c0
        have HP := lhid hp
        obtain ⟨xm, hxm⟩ : ∃ xm, m2 i = xm := ⟨_, rfl⟩
        obtain ⟨yw, hyw⟩ : ∃ yw, wm j = yw := ⟨_, rfl⟩
        obtain ⟨ym, hym⟩ : ∃ ym, xm &&& ~~~yw = ym := ⟨_, rfl⟩
        have HWO : Hid (∀ w : World, Calls Try.prog 57 #[.int .u64 (xm.toNat : Int), .int .u64 (yw.toNat : Int)] w fun e w' => e = .returned (.int .u64 (ym.toNat : Int)) ∧ w' = w) := lhid (fun w => by rw [← hym]; exact without_c xm yw w)
        have HXY : Hid (m2 i &&& ~~~(LW.wr j) = ym) := lhid (by rw [← HWF.out j hjn, hyw, hxm]; exact hym)
        have HTL : Hid ((T2.length + 1) * 8 ≤ 140737488355328) := lhid (by have h1 := HZ2.out; have h2 := HZ0.out; have h3 := hb.out; omega)
        have hij : (j : Int) < n := by omega
        clear hp hym hwx hlx hrx htx hbw
        go_upto_region 3 with fail
        obtain ⟨wz, hwz⟩ : ∃ wz, wz = wr.drew := ⟨_, rfl⟩
        have HSz := lhid (HS2.out.below (w5 := wz) (by rw [hwz]; exact bel_drew (Below.refl _ _)))
        obtain ⟨_, hlx, hrx, _, _⟩ := HCX.out _ _ _ _ _ HSz.out
        have hlb := heap_cell (i := 0) hlx rfl
        have hrb := heap_cell (i := 0) hrx rfl
        have hrw := HSz.out.wrt.at' hjn
        rw [hyw] at hrw
        have b3 := HSz.out.mem.marks.at' hin
        rw [hxm] at b3
        have HCELL : Hid (∀ w' : World, (w'.cell? ⟨LX, 0, none⟩ = some (.slice (some ⟨G, 0, none⟩) n n) ∧ w'.cell? ⟨RX, 0, none⟩ = some (.slice (some ⟨R, 0, none⟩) n n) ∧ w'.cell? ⟨R, j, none⟩ = some (.int .u64 (yw.toNat : Int))) → (w'.cell? ⟨LX, 0, none⟩ = some (.slice (some ⟨G, 0, none⟩) n n) ∧ w'.cell? ⟨RX, 0, none⟩ = some (.slice (some ⟨R, 0, none⟩) n n) ∧ w'.cell? ⟨R, j, none⟩ = some (.int .u64 (yw.toNat : Int)))) := lhid (fun w' h => h)
        refine wp_region_held_drew (S := fun w' => (w'.cell? ⟨LX, 0, none⟩ = some (.slice (some ⟨G, 0, none⟩) n n) ∧ w'.cell? ⟨RX, 0, none⟩ = some (.slice (some ⟨R, 0, none⟩) n n) ∧ w'.cell? ⟨R, j, none⟩ = some (.int .u64 (yw.toNat : Int)))) (by kernel_rfl) (by rw [← hwz]; exact ⟨hlb, hrb, hrw⟩) ?_
        intro hS0
        rw [← hwz] at hS0 ⊢
        clear hwz hlb hrb hrw hlx hrx
        refine wpAnyH_take (i := 0) (v := ?tv1) rfl (by kernel_rfl) (by kernel_rfl) (by kernel_rfl) (fun _ _ _ h => h) (Or.inl ⟨by rfl, ?ty1⟩) hS0 ?tr1
        case ty1 => (intro w' hw'; obtain ⟨y0, y1, y2⟩ := HCELL.out w' hw'; go_simp; try with_reducible rfl)
        try simp only [List.getElem_toArray, List.getElem_cons_zero, List.getElem_cons_succ]
        try simp only [Act.put, List.setIfInBounds_toArray, List.set_cons_zero, List.set_cons_succ]
        refine wpAnyH_take (i := 1) (v := ?tv2) rfl (by kernel_rfl) (by kernel_rfl) (by kernel_rfl) (fun _ _ _ h => h) (Or.inl ⟨by rfl, ?ty2⟩) hS0 ?tr2
        case ty2 => (intro w' hw'; obtain ⟨y0, y1, y2⟩ := HCELL.out w' hw'; go_simp; try with_reducible rfl)
        try simp only [List.getElem_toArray, List.getElem_cons_zero, List.getElem_cons_succ]
        try simp only [Act.put, List.setIfInBounds_toArray, List.set_cons_zero, List.set_cons_succ]
        refine wpAnyH_take (i := 2) (v := ?tv3) rfl (by kernel_rfl) (by kernel_rfl) (by kernel_rfl) (fun _ _ _ h => h) (Or.inl ⟨by rfl, ?ty3⟩) hS0 ?tr3
        case ty3 => (intro w' hw'; obtain ⟨y0, y1, y2⟩ := HCELL.out w' hw'; go_simp; try with_reducible rfl)
        try simp only [List.getElem_toArray, List.getElem_cons_zero, List.getElem_cons_succ]
        try simp only [Act.put, List.setIfInBounds_toArray, List.set_cons_zero, List.set_cons_succ]
        refine wpAnyH_take (i := 3) (v := ?tv4) rfl (by kernel_rfl) (by kernel_rfl) (by kernel_rfl) (fun _ _ _ h => h) (Or.inl ⟨by rfl, ?ty4⟩) hS0 ?tr4
        case ty4 => (intro w' hw'; obtain ⟨y0, y1, y2⟩ := HCELL.out w' hw'; go_simp; try with_reducible rfl)
        try simp only [List.getElem_toArray, List.getElem_cons_zero, List.getElem_cons_succ]
        try simp only [Act.put, List.setIfInBounds_toArray, List.set_cons_zero, List.set_cons_succ]
        refine wpAnyH_take (i := 4) (v := ?tv5) rfl (by kernel_rfl) (by kernel_rfl) (by kernel_rfl) (fun _ _ _ h => h) (Or.inl ⟨by rfl, ?ty5⟩) hS0 ?tr5
        case ty5 => (intro w' hw'; obtain ⟨y0, y1, y2⟩ := HCELL.out w' hw'; go_simp; try with_reducible rfl)
        try simp only [List.getElem_toArray, List.getElem_cons_zero, List.getElem_cons_succ]
        try simp only [Act.put, List.setIfInBounds_toArray, List.set_cons_zero, List.set_cons_succ]
        refine wpAnyH_take (i := 6) (v := ?tv6) rfl (by kernel_rfl) (by kernel_rfl) (by kernel_rfl) (fun _ _ _ h => h) (Or.inl ⟨by rfl, ?ty6⟩) hS0 ?tr6
        case ty6 => (intro w' hw'; obtain ⟨y0, y1, y2⟩ := HCELL.out w' hw'; go_simp; try with_reducible rfl)
        try simp only [List.getElem_toArray, List.getElem_cons_zero, List.getElem_cons_succ]
        try simp only [Act.put, List.setIfInBounds_toArray, List.set_cons_zero, List.set_cons_succ]
        refine wpAnyH_take (i := 7) (v := ?tv7) rfl (by kernel_rfl) (by kernel_rfl) (by kernel_rfl) (fun _ _ _ h => h) (Or.inl ⟨by rfl, ?ty7⟩) hS0 ?tr7
        case ty7 => (intro w' hw'; obtain ⟨y0, y1, y2⟩ := HCELL.out w' hw'; go_simp; try with_reducible rfl)
        try simp only [List.getElem_toArray, List.getElem_cons_zero, List.getElem_cons_succ]
        try simp only [Act.put, List.setIfInBounds_toArray, List.set_cons_zero, List.set_cons_succ]
        refine wpAnyH_take (i := 8) (v := ?tv8) rfl (by kernel_rfl) (by kernel_rfl) (by kernel_rfl) (fun _ _ _ h => h) (Or.inl ⟨by rfl, ?ty8⟩) hS0 ?tr8
        case ty8 => (intro w' hw'; obtain ⟨y0, y1, y2⟩ := HCELL.out w' hw'; go_simp; try with_reducible rfl)
        try simp only [List.getElem_toArray, List.getElem_cons_zero, List.getElem_cons_succ]
        try simp only [Act.put, List.setIfInBounds_toArray, List.set_cons_zero, List.set_cons_succ]
        refine wpAnyH_take (i := 9) (v := ?tv9) rfl (by kernel_rfl) (by kernel_rfl) (by kernel_rfl) (fun _ _ _ h => h) (Or.inl ⟨by rfl, ?ty9⟩) hS0 ?tr9
        case ty9 => (intro w' hw'; obtain ⟨y0, y1, y2⟩ := HCELL.out w' hw'; go_simp; try with_reducible rfl)
        try simp only [List.getElem_toArray, List.getElem_cons_zero, List.getElem_cons_succ]
        try simp only [Act.put, List.setIfInBounds_toArray, List.set_cons_zero, List.set_cons_succ]
        refine wpAnyH_ready (rs := [5]) (by kernel_rfl) (by simp) ?_
        refine AllReadyH.cons rfl (fun K hK => ?_) AllReadyH.nil
        go_simp
        refine hK.out _ _ hS0 (fun _ => ?_)
        clear hK K
        try simp only [Act.put, List.setIfInBounds_toArray, List.set_cons_zero, List.set_cons_succ]
        refine wpAnyH_ready (rs := [10]) (by kernel_rfl) (by simp) ?_
        refine AllReadyH.cons rfl (fun K hK => ?_) AllReadyH.nil
        go_simp
        refine (HWO.out _).mono ?_
        rintro e wy ⟨rfl, hww⟩
        rw [hww]
        clear hww
        dsimp only
        refine hK.out _ _ hS0 (fun _ => ?_)
        clear hK K
        try simp only [Act.put, List.setIfInBounds_toArray, List.set_cons_zero, List.set_cons_succ]
        refine wpAnyH_ready (rs := [11]) (by kernel_rfl) (by simp) ?_
        refine AllReadyH.cons rfl (fun K hK => ?_) AllReadyH.nil
        go_simp
        refine (bring_l LB WB TB G H B n m2 W2 T2 j ym wz (lhid HSz.out.mem) (lhid hjn) HTL).mono ?_
        rintro e w5 ⟨rfl, m', W', T3, hbr, hm, hc⟩
        have HS5 := lhid (HSz.out.bring hm hc)
        obtain ⟨_, hlx, hrx, _, _⟩ := HCX.out _ _ _ _ _ HS5.out
        have hS5 : w5.cell? ⟨LX, 0, none⟩ = some (.slice (some ⟨G, 0, none⟩) n n) ∧ w5.cell? ⟨RX, 0, none⟩ = some (.slice (some ⟨R, 0, none⟩) n n) ∧ w5.cell? ⟨R, j, none⟩ = some (.int .u64 (yw.toNat : Int)) := ⟨heap_cell (i := 0) hlx rfl, heap_cell (i := 0) hrx rfl, by have h9 := HS5.out.wrt.at' hjn; rw [hyw] at h9; exact h9⟩
        have HBR := lhid hbr
        clear hbr hm hc hlx hrx
        dsimp only
        refine hK.out _ _ hS5 (fun _ => ?_)
        clear hK K
        try simp only [Act.put, List.setIfInBounds_toArray, List.set_cons_zero, List.set_cons_succ]
        refine wpAnyH_done (by kernel_rfl) ?_ _
        clear hS5 hS0 b3
        go_wp2
        have HI5 : Hid (Lv1 LW i (lp.take (k + 1)) m' tm T3) := lhid (by
          rw [take_snoc HP.out]
          refine HI2.out.step rfl ?_ (by rw [HLN.out, HXY.out]; exact HBR.out)
          rw [HPRI.out]
          exact List.mem_of_getElem? HP.out)
        have HZ5 : Hid (2 * zerS n m' + T3.length ≤ Z0) := lhid (Nat.le_trans HBR.out.less HZ2.out)
        go_roundg (lp.length - (k + 1))
        case measure => omega
        case rel => exact ⟨k + 1, m', W', T3, rfl, by first | rfl | rw [hwk], by omega, HZ5, HS5, HI5⟩
    · have k3 : ¬ (k : Int) < lp.length := by omega
      have HI4 : Hid (Lv2 LW i [] m2 tm T2) := lhid (Lv2.start (by
        have h1 := HI2.out
        rw [List.take_of_length_le (by omega)] at h1
        rw [HPRI.out]
        exact h1))
      clear HI2
      obtain ⟨wf, hwf⟩ : ∃ x, x = wr := ⟨_, rfl⟩
      subst hwf
      obtain ⟨hwx, hlx, hrx, htx, hbw⟩ := HCX.out _ _ _ _ _ HS2.out
      obtain ⟨lc, hlc⟩ : ∃ l, Cs[i]? = some l := ⟨_, List.getElem?_eq_getElem (by have := hlen.out; omega)⟩
      obtain ⟨gq, oq, CA2, cc2, hCA, c0, hrc⟩ := ls_cell hCs.out hlc
      subst hCA
      replace c0 := (hbw.cell (cell_lt c0)).trans c0
      have hgq := cell_lt c0
      have q5 := heap_cell (i := 5) hwx rfl
      have HLC := lhid hlc
      have HRLC := lhid hrc
      have HLCL : Hid (lc.length ≤ 140737488355328) := lhid hrc.len
      have HCAI : Hid (LW.ca i = lc) := lhid (by rw [HLW.out.2.1]; exact getD_of hlc)
      clear hwx hlx hrx htx hbw hlc hrc
      go_wp2_with fail
      clear c0 hgq q5
      as_aux_lemma =>
        go_loopg [43] lc.length (fun g s wq => ∃ (k : Nat) (m2 : Nat → Mk) (W2 : Nat → Bool) (T2 : List Nat) (tm2 : Nat → Mk), g = lc.length - k ∧ s = .int .i64 k ∧ k ≤ lc.length ∧ Hid (2 * zerS n m2 + T2.length ≤ Z0) ∧ Hid (LvS wd LB WB TB G H R TW B n S m2 W2 T2 wm tm2 wq) ∧ Hid (Lv2 LW i (lc.take k) m2 tm2 T2))
        case atStart => exact ⟨0, m2, W2, T2, tm, rfl, rfl, Nat.zero_le _, HZ2, HS2, lhid (by rw [List.take_zero]; exact HI4.out)⟩
        case round =>
          clear HS2 HI4 HZ2
          obtain ⟨k, m2, W2, T2, tm2, rfl, rfl, hk, HZ2, HS2, HI2⟩ := hrel
          by_cases hlt : k < lc.length
          · have k3 : (k : Int) < lc.length := by omega
            have hwk : wrap64 ((k : Int) + 1) = ((k + 1 : Nat) : Int) := by rw [IntWalk.wrap64_in _ (by have := HLCL.out; omega)]; omega
            obtain ⟨p, hp⟩ : ∃ p, lc[k]? = some p := ⟨_, List.getElem?_eq_getElem hlt⟩
            obtain ⟨sn, hsn, hsS⟩ := hel.out.2.2 lc (List.mem_of_getElem? HLC.out) p (List.mem_of_getElem? hp)
            subst hsn
            obtain ⟨hwx, hlx, hrx, htx, hbw⟩ := HCX.out _ _ _ _ _ HS2.out
            obtain ⟨gl, ol, hLA, c0⟩ := nu_cell (HRLC.out.below (keptX_nu _) hbw) hp
            subst hLA
            have hgl := cell_lt c0
            have HP := lhid hp
            obtain ⟨xm, hxm⟩ : ∃ xm, m2 i = xm := ⟨_, rfl⟩
            obtain ⟨yt, hyt⟩ : ∃ yt, tm2 sn = yt := ⟨_, rfl⟩
            obtain ⟨zm, hzm⟩ : ∃ zm, xm &&& ~~~yt = zm := ⟨_, rfl⟩
            have HWO : Hid (∀ w : World, Calls Try.prog 57 #[.int .u64 (xm.toNat : Int), .int .u64 (yt.toNat : Int)] w fun e w' => e = .returned (.int .u64 (zm.toNat : Int)) ∧ w' = w) := lhid (fun w => by rw [← hzm]; exact without_c xm yt w)
            have HGC : Hid (∀ w' : World, Below wr.heap.size wr w' → w'.cell? ⟨LX, 0, none⟩ = some (.slice (some ⟨G, 0, none⟩) n n) ∧ w'.cell? ⟨G, i, none⟩ = some (.int .u64 (xm.toNat : Int)) ∧ w'.cell? ⟨TX, 0, none⟩ = some (.slice (some ⟨TW, 0, none⟩) S S) ∧ w'.cell? ⟨TW, sn, none⟩ = some (.int .u64 (yt.toNat : Int))) := lhid (fun w' hb => by
              have h9 := HS2.out.below hb
              obtain ⟨_, h1, _, h2, _⟩ := HCX.out _ _ _ _ _ h9
              refine ⟨heap_cell (i := 0) h1 rfl, ?_, heap_cell (i := 0) h2 rfl, ?_⟩
              · have h8 := h9.mem.marks.at' hin; rw [hxm] at h8; exact h8
              · have h8 := h9.thr.at' hsS; rw [hyt] at h8; exact h8)
            have hz0 := msk_zero (x := zm)
            have his : (sn : Int) < S := by omega
            have HZM := lhid hzm
            have HXM := lhid hxm
            have HYT := lhid hyt
            clear hp hwx hlx hrx htx hbw hzm
            by_cases hzz : zm = 0
            · as_aux_lemma =>
                have hzb : decide (zm = 0) = true := by simpa using hzz
                rw [hzb] at hz0
                have HSK : Hid (Lv2 LW i (lc.take (k + 1)) m2 tm2 T2) := lhid (by rw [take_snoc HP.out]; exact HI2.out.skip (by rw [hxm, hyt, HZM.out]; exact hzz))
                clear hzz hzb hxm hyt
                go_upto_region 8 with fail
                refine wp_region_held_drew (S := fun w' => Below wr.heap.size wr w') (by kernel_rfl) (Below.drew' (Below.refl _ _)) ?_
                intro hS0
                refine wpAnyH_take (i := 0) (v := ?tv10) rfl (by kernel_rfl) (by kernel_rfl) (by kernel_rfl) (fun _ _ _ h => h) (Or.inl ⟨by rfl, ?ty10⟩) hS0 ?tr10
                case ty10 => (intro w' hw'; obtain ⟨y0, y1, y2, y3⟩ := HGC.out w' hw'; go_simp; try with_reducible rfl)
                try simp only [List.getElem_toArray, List.getElem_cons_zero, List.getElem_cons_succ]
                try simp only [Act.put, List.setIfInBounds_toArray, List.set_cons_zero, List.set_cons_succ]
                refine wpAnyH_take (i := 1) (v := ?tv11) rfl (by kernel_rfl) (by kernel_rfl) (by kernel_rfl) (fun _ _ _ h => h) (Or.inl ⟨by rfl, ?ty11⟩) hS0 ?tr11
                case ty11 => (intro w' hw'; obtain ⟨y0, y1, y2, y3⟩ := HGC.out w' hw'; go_simp; try with_reducible rfl)
                try simp only [List.getElem_toArray, List.getElem_cons_zero, List.getElem_cons_succ]
                try simp only [Act.put, List.setIfInBounds_toArray, List.set_cons_zero, List.set_cons_succ]
                refine wpAnyH_take (i := 2) (v := ?tv12) rfl (by kernel_rfl) (by kernel_rfl) (by kernel_rfl) (fun _ _ _ h => h) (Or.inl ⟨by rfl, ?ty12⟩) hS0 ?tr12
                case ty12 => (intro w' hw'; obtain ⟨y0, y1, y2, y3⟩ := HGC.out w' hw'; go_simp; try with_reducible rfl)
                try simp only [List.getElem_toArray, List.getElem_cons_zero, List.getElem_cons_succ]
                try simp only [Act.put, List.setIfInBounds_toArray, List.set_cons_zero, List.set_cons_succ]
                refine wpAnyH_take (i := 3) (v := ?tv13) rfl (by kernel_rfl) (by kernel_rfl) (by kernel_rfl) (fun _ _ _ h => h) (Or.inl ⟨by rfl, ?ty13⟩) hS0 ?tr13
                case ty13 => (intro w' hw'; obtain ⟨y0, y1, y2, y3⟩ := HGC.out w' hw'; go_simp; try with_reducible rfl)
                try simp only [List.getElem_toArray, List.getElem_cons_zero, List.getElem_cons_succ]
                try simp only [Act.put, List.setIfInBounds_toArray, List.set_cons_zero, List.set_cons_succ]
                refine wpAnyH_take (i := 4) (v := ?tv14) rfl (by kernel_rfl) (by kernel_rfl) (by kernel_rfl) (fun _ _ _ h => h) (Or.inl ⟨by rfl, ?ty14⟩) hS0 ?tr14
                case ty14 => (intro w' hw'; obtain ⟨y0, y1, y2, y3⟩ := HGC.out w' hw'; go_simp; try with_reducible rfl)
                try simp only [List.getElem_toArray, List.getElem_cons_zero, List.getElem_cons_succ]
                try simp only [Act.put, List.setIfInBounds_toArray, List.set_cons_zero, List.set_cons_succ]
                refine wpAnyH_take (i := 5) (v := ?tv15) rfl (by kernel_rfl) (by kernel_rfl) (by kernel_rfl) (fun _ _ _ h => h) (Or.inl ⟨by rfl, ?ty15⟩) hS0 ?tr15
                case ty15 => (intro w' hw'; obtain ⟨y0, y1, y2, y3⟩ := HGC.out w' hw'; go_simp; try with_reducible rfl)
                try simp only [List.getElem_toArray, List.getElem_cons_zero, List.getElem_cons_succ]
                try simp only [Act.put, List.setIfInBounds_toArray, List.set_cons_zero, List.set_cons_succ]
                refine wpAnyH_take (i := 6) (v := ?tv16) rfl (by kernel_rfl) (by kernel_rfl) (by kernel_rfl) (fun _ _ _ h => h) (Or.inl ⟨by rfl, ?ty16⟩) hS0 ?tr16
                case ty16 => (intro w' hw'; obtain ⟨y0, y1, y2, y3⟩ := HGC.out w' hw'; go_simp; try with_reducible rfl)
                try simp only [List.getElem_toArray, List.getElem_cons_zero, List.getElem_cons_succ]
                try simp only [Act.put, List.setIfInBounds_toArray, List.set_cons_zero, List.set_cons_succ]
                refine wpAnyH_take (i := 7) (v := ?tv17) rfl (by kernel_rfl) (by kernel_rfl) (by kernel_rfl) (fun _ _ _ h => h) (Or.inl ⟨by rfl, ?ty17⟩) hS0 ?tr17
                case ty17 => (intro w' hw'; obtain ⟨y0, y1, y2, y3⟩ := HGC.out w' hw'; go_simp; try with_reducible rfl)
                try simp only [List.getElem_toArray, List.getElem_cons_zero, List.getElem_cons_succ]
                try simp only [Act.put, List.setIfInBounds_toArray, List.set_cons_zero, List.set_cons_succ]
                refine wpAnyH_ready (rs := [8]) (by kernel_rfl) (by simp) ?_
                refine AllReadyH.cons rfl (fun K hK => ?_) AllReadyH.nil
                go_simp
                refine (HWO.out _).mono ?_
                rintro e wy ⟨rfl, hww⟩
                rw [hww]
                clear hww
                dsimp only
                refine hK.out _ _ hS0 (fun _ => ?_)
                clear hK K
                try simp only [Act.put, List.setIfInBounds_toArray, List.set_cons_zero, List.set_cons_succ]
                refine wpAnyH_quiet_tail 9 (by rfl) (by kernel_rfl) (by kernel_rfl) hS0 ?_
                simp only [List.drop_succ_cons, List.drop_zero]
                repeat (first
                  | go_big_quiet_skip
                  | (go_big_quiet_want
                     refine quiet_of_run (v := ?_) (fun w' hw' => ?_) ?_
                     rotate_left
                     · (go_simp; try with_reducible rfl)
                     go_big_quiet_on
                     try simp only [Act.put, List.setIfInBounds_toArray, List.set_cons_zero, List.set_cons_succ]))
                refine wpQuiet_nil ?_
                intro wx hwx
                have HS3 := lhid (HS2.out.below hwx)
                clear hwx
                go_wp2_with fail
                go_roundg (lc.length - (k + 1))
                case measure => omega
                case rel => exact ⟨k + 1, m2, W2, T2, tm2, rfl, by first | rfl | rw [hwk], by omega, HZ2, HS3, HSK⟩
            · have hzb : decide (zm = 0) = false := by simpa using hzz
              rw [hzb] at hz0
              obtain ⟨u, hu⟩ : ∃ u : Mk, yt ||| xm = u := ⟨_, rfl⟩
              have hor : bits .or .u64 (yt.toNat : Int) (xm.toNat : Int) = (u.toNat : Int) := by rw [or_u, hu]
              have HUU := lhid hu
              clear hzz hzb hu
              go_upto_region 8 with fail
              refine wp_region_held_drew (S := fun w' => Below wr.heap.size wr w') (by kernel_rfl) (Below.drew' (Below.refl _ _)) ?_
              intro hS0
              refine wpAnyH_take (i := 0) (v := ?tv18) rfl (by kernel_rfl) (by kernel_rfl) (by kernel_rfl) (fun _ _ _ h => h) (Or.inl ⟨by rfl, ?ty18⟩) hS0 ?tr18
              case ty18 => (intro w' hw'; obtain ⟨y0, y1, y2, y3⟩ := HGC.out w' hw'; go_simp; try with_reducible rfl)
              try simp only [List.getElem_toArray, List.getElem_cons_zero, List.getElem_cons_succ]
              try simp only [Act.put, List.setIfInBounds_toArray, List.set_cons_zero, List.set_cons_succ]
              refine wpAnyH_take (i := 1) (v := ?tv19) rfl (by kernel_rfl) (by kernel_rfl) (by kernel_rfl) (fun _ _ _ h => h) (Or.inl ⟨by rfl, ?ty19⟩) hS0 ?tr19
              case ty19 => (intro w' hw'; obtain ⟨y0, y1, y2, y3⟩ := HGC.out w' hw'; go_simp; try with_reducible rfl)
              try simp only [List.getElem_toArray, List.getElem_cons_zero, List.getElem_cons_succ]
              try simp only [Act.put, List.setIfInBounds_toArray, List.set_cons_zero, List.set_cons_succ]
              refine wpAnyH_take (i := 2) (v := ?tv20) rfl (by kernel_rfl) (by kernel_rfl) (by kernel_rfl) (fun _ _ _ h => h) (Or.inl ⟨by rfl, ?ty20⟩) hS0 ?tr20
              case ty20 => (intro w' hw'; obtain ⟨y0, y1, y2, y3⟩ := HGC.out w' hw'; go_simp; try with_reducible rfl)
              try simp only [List.getElem_toArray, List.getElem_cons_zero, List.getElem_cons_succ]
              try simp only [Act.put, List.setIfInBounds_toArray, List.set_cons_zero, List.set_cons_succ]
              refine wpAnyH_take (i := 3) (v := ?tv21) rfl (by kernel_rfl) (by kernel_rfl) (by kernel_rfl) (fun _ _ _ h => h) (Or.inl ⟨by rfl, ?ty21⟩) hS0 ?tr21
              case ty21 => (intro w' hw'; obtain ⟨y0, y1, y2, y3⟩ := HGC.out w' hw'; go_simp; try with_reducible rfl)
              try simp only [List.getElem_toArray, List.getElem_cons_zero, List.getElem_cons_succ]
              try simp only [Act.put, List.setIfInBounds_toArray, List.set_cons_zero, List.set_cons_succ]
              refine wpAnyH_take (i := 4) (v := ?tv22) rfl (by kernel_rfl) (by kernel_rfl) (by kernel_rfl) (fun _ _ _ h => h) (Or.inl ⟨by rfl, ?ty22⟩) hS0 ?tr22
              case ty22 => (intro w' hw'; obtain ⟨y0, y1, y2, y3⟩ := HGC.out w' hw'; go_simp; try with_reducible rfl)
              try simp only [List.getElem_toArray, List.getElem_cons_zero, List.getElem_cons_succ]
              try simp only [Act.put, List.setIfInBounds_toArray, List.set_cons_zero, List.set_cons_succ]
              refine wpAnyH_take (i := 5) (v := ?tv23) rfl (by kernel_rfl) (by kernel_rfl) (by kernel_rfl) (fun _ _ _ h => h) (Or.inl ⟨by rfl, ?ty23⟩) hS0 ?tr23
              case ty23 => (intro w' hw'; obtain ⟨y0, y1, y2, y3⟩ := HGC.out w' hw'; go_simp; try with_reducible rfl)
              try simp only [List.getElem_toArray, List.getElem_cons_zero, List.getElem_cons_succ]
              try simp only [Act.put, List.setIfInBounds_toArray, List.set_cons_zero, List.set_cons_succ]
              refine wpAnyH_take (i := 6) (v := ?tv24) rfl (by kernel_rfl) (by kernel_rfl) (by kernel_rfl) (fun _ _ _ h => h) (Or.inl ⟨by rfl, ?ty24⟩) hS0 ?tr24
              case ty24 => (intro w' hw'; obtain ⟨y0, y1, y2, y3⟩ := HGC.out w' hw'; go_simp; try with_reducible rfl)
              try simp only [List.getElem_toArray, List.getElem_cons_zero, List.getElem_cons_succ]
              try simp only [Act.put, List.setIfInBounds_toArray, List.set_cons_zero, List.set_cons_succ]
              refine wpAnyH_take (i := 7) (v := ?tv25) rfl (by kernel_rfl) (by kernel_rfl) (by kernel_rfl) (fun _ _ _ h => h) (Or.inl ⟨by rfl, ?ty25⟩) hS0 ?tr25
              case ty25 => (intro w' hw'; obtain ⟨y0, y1, y2, y3⟩ := HGC.out w' hw'; go_simp; try with_reducible rfl)
              try simp only [List.getElem_toArray, List.getElem_cons_zero, List.getElem_cons_succ]
              try simp only [Act.put, List.setIfInBounds_toArray, List.set_cons_zero, List.set_cons_succ]
              refine wpAnyH_ready (rs := [8]) (by kernel_rfl) (by simp) ?_
              refine AllReadyH.cons rfl (fun K hK => ?_) AllReadyH.nil
              go_simp
              refine (HWO.out _).mono ?_
              rintro e wy ⟨rfl, hww⟩
              rw [hww]
              clear hww
              dsimp only
              refine hK.out _ _ hS0 (fun _ => ?_)
              clear hK K
              try simp only [Act.put, List.setIfInBounds_toArray, List.set_cons_zero, List.set_cons_succ]
              refine wpAnyH_quiet_tail 9 (by rfl) (by kernel_rfl) (by kernel_rfl) hS0 ?_
              simp only [List.drop_succ_cons, List.drop_zero]
              repeat (first
                | go_big_quiet_skip
                | (go_big_quiet_want
                   refine quiet_of_run (v := ?_) (fun w' hw' => ?_) ?_
                   rotate_left
                   · (go_simp; try with_reducible rfl)
                   go_big_quiet_on
                   try simp only [Act.put, List.setIfInBounds_toArray, List.set_cons_zero, List.set_cons_succ]))
              refine wpQuiet_nil ?_
              intro wx hwx
              have HS3 := lhid (HS2.out.below hwx)
              clear hwx
              go_upto_region 9 with fail
              obtain ⟨wz, hwz⟩ : ∃ wz, wz = wx.drew := ⟨_, rfl⟩
              have HSz := lhid (HS3.out.below (w5 := wz) (by rw [hwz]; exact bel_drew (Below.refl _ _)))
              obtain ⟨_, hlx, _, htx, _⟩ := HCX.out _ _ _ _ _ HSz.out
              have hlb := heap_cell (i := 0) hlx rfl
              have htb := heap_cell (i := 0) htx rfl
              have hgm := HSz.out.mem.marks.at' hin
              rw [hxm] at hgm
              have hyc := HSz.out.thr.at' hsS
              rw [hyt] at hyc
              have hyf := HSz.out.thr.fz sn
              have hyl := HSz.out.thr.lt
              have HCELL : Hid (∀ w' : World, (w'.cell? ⟨LX, 0, none⟩ = some (.slice (some ⟨G, 0, none⟩) n n) ∧ w'.cell? ⟨TX, 0, none⟩ = some (.slice (some ⟨TW, 0, none⟩) S S) ∧ w'.cell? ⟨G, i, none⟩ = some (.int .u64 (xm.toNat : Int))) → (w'.cell? ⟨LX, 0, none⟩ = some (.slice (some ⟨G, 0, none⟩) n n) ∧ w'.cell? ⟨TX, 0, none⟩ = some (.slice (some ⟨TW, 0, none⟩) S S) ∧ w'.cell? ⟨G, i, none⟩ = some (.int .u64 (xm.toNat : Int)))) := lhid (fun w' h => h)
              refine wp_region_held_drew (S := fun w' => (w'.cell? ⟨LX, 0, none⟩ = some (.slice (some ⟨G, 0, none⟩) n n) ∧ w'.cell? ⟨TX, 0, none⟩ = some (.slice (some ⟨TW, 0, none⟩) S S) ∧ w'.cell? ⟨G, i, none⟩ = some (.int .u64 (xm.toNat : Int)))) (by kernel_rfl) (by rw [← hwz]; exact ⟨hlb, htb, hgm⟩) ?_
              intro hS0
              rw [← hwz] at hS0 ⊢
              clear hwz hlb htb hgm hlx htx
              refine wpAnyH_take (i := 0) (v := ?tv26) rfl (by kernel_rfl) (by kernel_rfl) (by kernel_rfl) (fun _ _ _ h => h) (Or.inl ⟨by rfl, ?ty26⟩) hS0 ?tr26
              case ty26 => (intro w' hw'; obtain ⟨y0, y1, y2⟩ := HCELL.out w' hw'; go_simp; try with_reducible rfl)
              try simp only [List.getElem_toArray, List.getElem_cons_zero, List.getElem_cons_succ]
              try simp only [Act.put, List.setIfInBounds_toArray, List.set_cons_zero, List.set_cons_succ]
              refine wpAnyH_take (i := 1) (v := ?tv27) rfl (by kernel_rfl) (by kernel_rfl) (by kernel_rfl) (fun _ _ _ h => h) (Or.inl ⟨by rfl, ?ty27⟩) hS0 ?tr27
              case ty27 => (intro w' hw'; obtain ⟨y0, y1, y2⟩ := HCELL.out w' hw'; go_simp; try with_reducible rfl)
              try simp only [List.getElem_toArray, List.getElem_cons_zero, List.getElem_cons_succ]
              try simp only [Act.put, List.setIfInBounds_toArray, List.set_cons_zero, List.set_cons_succ]
              refine wpAnyH_take (i := 2) (v := ?tv28) rfl (by kernel_rfl) (by kernel_rfl) (by kernel_rfl) (fun _ _ _ h => h) (Or.inl ⟨by rfl, ?ty28⟩) hS0 ?tr28
              case ty28 => (intro w' hw'; obtain ⟨y0, y1, y2⟩ := HCELL.out w' hw'; go_simp; try with_reducible rfl)
              try simp only [List.getElem_toArray, List.getElem_cons_zero, List.getElem_cons_succ]
              try simp only [Act.put, List.setIfInBounds_toArray, List.set_cons_zero, List.set_cons_succ]
              refine wpAnyH_take (i := 4) (v := ?tv29) rfl (by kernel_rfl) (by kernel_rfl) (by kernel_rfl) (fun _ _ _ h => h) (Or.inl ⟨by rfl, ?ty29⟩) hS0 ?tr29
              case ty29 => (intro w' hw'; obtain ⟨y0, y1, y2⟩ := HCELL.out w' hw'; go_simp; try with_reducible rfl)
              try simp only [List.getElem_toArray, List.getElem_cons_zero, List.getElem_cons_succ]
              try simp only [Act.put, List.setIfInBounds_toArray, List.set_cons_zero, List.set_cons_succ]
              refine wpAnyH_take (i := 5) (v := ?tv30) rfl (by kernel_rfl) (by kernel_rfl) (by kernel_rfl) (fun _ _ _ h => h) (Or.inl ⟨by rfl, ?ty30⟩) hS0 ?tr30
              case ty30 => (intro w' hw'; obtain ⟨y0, y1, y2⟩ := HCELL.out w' hw'; go_simp; try with_reducible rfl)
              try simp only [List.getElem_toArray, List.getElem_cons_zero, List.getElem_cons_succ]
              try simp only [Act.put, List.setIfInBounds_toArray, List.set_cons_zero, List.set_cons_succ]
              refine wpAnyH_take (i := 6) (v := ?tv31) rfl (by kernel_rfl) (by kernel_rfl) (by kernel_rfl) (fun _ _ _ h => h) (Or.inl ⟨by rfl, ?ty31⟩) hS0 ?tr31
              case ty31 => (intro w' hw'; obtain ⟨y0, y1, y2⟩ := HCELL.out w' hw'; go_simp; try with_reducible rfl)
              try simp only [List.getElem_toArray, List.getElem_cons_zero, List.getElem_cons_succ]
              try simp only [Act.put, List.setIfInBounds_toArray, List.set_cons_zero, List.set_cons_succ]
              refine wpAnyH_take (i := 7) (v := ?tv32) rfl (by kernel_rfl) (by kernel_rfl) (by kernel_rfl) (fun _ _ _ h => h) (Or.inl ⟨by rfl, ?ty32⟩) hS0 ?tr32
              case ty32 => (intro w' hw'; obtain ⟨y0, y1, y2⟩ := HCELL.out w' hw'; go_simp; try with_reducible rfl)
              try simp only [List.getElem_toArray, List.getElem_cons_zero, List.getElem_cons_succ]
              try simp only [Act.put, List.setIfInBounds_toArray, List.set_cons_zero, List.set_cons_succ]
              refine wpAnyH_ready (rs := [3]) (by kernel_rfl) (by simp) ?_
              refine AllReadyH.cons rfl (fun K hK => ?_) AllReadyH.nil
              go_simp
              refine hK.out _ _ hS0 (fun _ => ?_)
              clear hK K
              try simp only [Act.put, List.setIfInBounds_toArray, List.set_cons_zero, List.set_cons_succ]
              refine wpAnyH_take (i := 8) (v := ?tv33) rfl (by kernel_rfl) (by kernel_rfl) (by kernel_rfl) (fun _ _ _ h => h) (Or.inl ⟨by rfl, ?ty33⟩) hS0 ?tr33
              case ty33 => (intro w' hw'; go_simp; try with_reducible rfl)
              try simp only [List.getElem_toArray, List.getElem_cons_zero, List.getElem_cons_succ]
              try simp only [Act.put, List.setIfInBounds_toArray, List.set_cons_zero, List.set_cons_succ]
              refine wpAnyH_take (i := 9) (v := ?tv34) rfl (by kernel_rfl) (by kernel_rfl) (by kernel_rfl) (fun _ _ _ h => h) (Or.inl ⟨by rfl, ?ty34⟩) hS0 ?tr34
              case ty34 => (intro w' hw'; go_simp; try with_reducible rfl)
              try simp only [List.getElem_toArray, List.getElem_cons_zero, List.getElem_cons_succ]
              try simp only [Act.put, List.setIfInBounds_toArray, List.set_cons_zero, List.set_cons_succ]
              refine wpAnyH_ready (rs := [10]) (by kernel_rfl) (by simp) ?_
              refine AllReadyH.cons rfl (fun K hK => ?_) AllReadyH.nil
              go_simp
              have hS7 : (wz.setCell ⟨TW, sn, none⟩ (.int .u64 (u.toNat : Int))).cell? ⟨LX, 0, none⟩ = some (.slice (some ⟨G, 0, none⟩) n n) ∧ (wz.setCell ⟨TW, sn, none⟩ (.int .u64 (u.toNat : Int))).cell? ⟨TX, 0, none⟩ = some (.slice (some ⟨TW, 0, none⟩) S S) ∧ (wz.setCell ⟨TW, sn, none⟩ (.int .u64 (u.toNat : Int))).cell? ⟨G, i, none⟩ = some (.int .u64 (xm.toNat : Int)) := ⟨(cell_heap (Below.heap_setCell _ _ _ _ HNT.out.1) _).trans hS0.1, (cell_heap (Below.heap_setCell _ _ _ _ HNT.out.2) _).trans hS0.2.1, (cell_heap (Below.heap_setCell _ _ _ _ (fun e => HSz.out.num.tg e.symm)) _).trans hS0.2.2⟩
              refine hK.out _ _ hS7 (fun _ => ?_)
              clear hK K
              try simp only [Act.put, List.setIfInBounds_toArray, List.set_cons_zero, List.set_cons_succ]
              refine wpAnyH_done (by kernel_rfl) ?_ _
              clear hS7
              have HS6 := lhid (HSz.out.setT (p := sn) u)
              have HI3 : Hid (Lv3 LW i sn (lc.take k) [] m2 (fun j => if j = sn then u else tm2 j) T2) := lhid (Lv3.start HI2.out (by rw [HCAI.out]; exact List.mem_of_getElem? HP.out) (by show (if sn = sn then u else tm2 sn) = _; rw [if_pos rfl, HYT.out, HXM.out, HUU.out]) (fun q hq => by show (if q = sn then u else tm2 q) = _; rw [if_neg hq]))
              obtain ⟨w6, hw6⟩ : ∃ w6, w6 = (wz.setCell ⟨TW, sn, none⟩ (.int .u64 (u.toNat : Int))) := ⟨_, rfl⟩
              rw [← hw6] at HS6 ⊢
              obtain ⟨hwx, _, _, _, hbw⟩ := HCX.out _ _ _ _ _ HS6.out
              obtain ⟨lt, hlt5⟩ : ∃ l, Th[sn]? = some l := ⟨_, List.getElem?_eq_getElem (by have := hlen.out; omega)⟩
              obtain ⟨gt, ot, TA2, tc2, hTA, c0, hrt⟩ := ls_cell hT.out hlt5
              subst hTA
              replace c0 := (hbw.cell (cell_lt c0)).trans c0
              have hgt := cell_lt c0
              have q4 := heap_cell (i := 4) hwx rfl
              have HLT := lhid hlt5
              have HRLT := lhid hrt
              have HLTL : Hid (lt.length ≤ 140737488355328) := lhid hrt.len
              have HTHI : Hid (LW.th sn = lt) := lhid (by rw [HLW.out.2.2]; exact getD_of hlt5)
              clear hw6 hwx hbw hlt5 hrt HSz HS3 hyc hyf hyl HCELL HGC hS0 hor hz0
              go_wp2
              clear c0 hgt q4
              go_loopg [73] lt.length (fun g s wq => ∃ (q : Nat) (m3 : Nat → Mk) (W3 : Nat → Bool) (T3 : List Nat), g = lt.length - q ∧ s = .int .i64 q ∧ q ≤ lt.length ∧ Hid (2 * zerS n m3 + T3.length ≤ Z0) ∧ Hid (LvS wd LB WB TB G H R TW B n S m3 W3 T3 wm (fun j => if j = sn then u else tm2 j) wq) ∧ Hid (Lv3 LW i sn (lc.take k) (lt.take q) m3 (fun j => if j = sn then u else tm2 j) T3))
              case atStart => exact ⟨0, m2, W2, T2, rfl, rfl, Nat.zero_le _, HZ2, HS6, lhid (by rw [List.take_zero]; exact HI3.out)⟩
              case round =>
                clear HS6 HI3 HZ2
                obtain ⟨q, m3, W3, T3, rfl, rfl, hq, HZ3, HS7, HI7⟩ := hrel
                by_cases hlq : q < lt.length
                · as_aux_lemma =>
                    have HMS : Hid (lt.length - (q + 1) < lt.length - q) := lhid (Nat.sub_lt_sub_left hlq (Nat.lt_succ_self q))
                    have HQS : Hid (q + 1 ≤ lt.length) := lhid hlq
                    have k5 : (q : Int) < lt.length := Int.ofNat_lt.2 hlq
                    have hwq : wrap64 ((q : Int) + 1) = ((q + 1 : Nat) : Int) := by rw [IntWalk.wrap64_in _ (by have := HLTL.out; omega)]; omega
                    obtain ⟨p2, hp2⟩ : ∃ p, lt[q]? = some p := ⟨_, List.getElem?_eq_getElem hlq⟩
                    obtain ⟨j, hj, hjn⟩ := hel.out.2.1 lt (List.mem_of_getElem? HLT.out) p2 (List.mem_of_getElem? hp2)
                    subst hj
                    obtain ⟨hwx, hlx, _, _, hbw⟩ := HCX.out _ _ _ _ _ HS7.out
                    obtain ⟨gl2, ol2, hLA2, c0⟩ := nu_cell (HRLT.out.below (keptX_nu _) hbw) hp2
                    subst hLA2
                    have hgl2 := cell_lt c0
                    have HP2 := lhid hp2
                    have q0 := heap_cell (i := 0) hlx rfl
                    have q1 := HS7.out.mem.marks.at' hin
                    obtain ⟨xm3, hxm3⟩ : ∃ xm3, m3 i = xm3 := ⟨_, rfl⟩
                    rw [hxm3] at q1
                    have HXM3 := lhid hxm3
                    have HTL : Hid ((T3.length + 1) * 8 ≤ 140737488355328) := lhid (by have h1 := HZ3.out; have h2 := HZ0.out; have h3 := hb.out; omega)
                    clear hp2 hwx hlx hbw hxm3
                    go_wp2_with fail
                    with_reducible refine (bring_l LB WB TB G H B n m3 W3 T3 j xm3 wr (lhid HS7.out.mem) (lhid hjn) HTL).mono ?_
                    rintro e w8 ⟨rfl, m', W', T4, hbr, hm, hc⟩
                    have HS8 := lhid (HS7.out.bring hm hc)
                    have HI8 : Hid (Lv3 LW i sn (lc.take k) (lt.take (q + 1)) m' (fun j => if j = sn then u else tm2 j) T4) := lhid (by
                      rw [take_snoc HP2.out]
                      exact HI7.out.step (by rw [HTHI.out]; exact List.mem_of_getElem? HP2.out) (by rw [HLN.out, HXM3.out]; exact hbr))
                    have HZ8 : Hid (2 * zerS n m' + T4.length ≤ Z0) := lhid (Nat.le_trans hbr.less HZ3.out)
                    clear hbr hm hc q0 q1 c0
                    go_wp2_with fail
                    go_roundg (lt.length - (q + 1))
                    case measure => exact HMS.out
                    case rel => exact ⟨q + 1, m', W', T4, rfl, by first | rfl | rw [hwq], HQS.out, HZ8, HS8, HI8⟩
                · have k5 : ¬ (q : Int) < lt.length := by omega
                  have HI8 : Hid (Lv2 LW i (lc.take (k + 1)) m3 (fun j => if j = sn then u else tm2 j) T3) := lhid (by
                    rw [take_snoc HP.out]
                    refine Lv3.done ?_
                    have h1 := HI7.out
                    rw [show lt.take q = lt from List.take_of_length_le (by omega)] at h1
                    rw [HTHI.out]
                    exact h1)
                  clear HI7
                  go_wp2_with fail
                  go_roundg (lc.length - (k + 1))
                  case measure => omega
                  case rel => exact ⟨k + 1, m3, W3, T3, _, rfl, by first | rfl | rw [hwk], by omega, HZ3, HS7, HI8⟩
          · have k3 : ¬ (k : Int) < lc.length := by omega
            have HI9 : Hid (LvI LW LW.n m2 tm2 T2) := lhid (Lv2.done (by
              have h1 := HI2.out
              rw [List.take_of_length_le (by omega)] at h1
              rw [HCAI.out]
              exact h1))
            clear HI2
            go_wp2_with fail
            exact ⟨rfl, _, results_none rfl _ _ _, rfl, m2, W2, T2, tm2, HS2.out, HI9.out, HZ2.out⟩
end Go.Proofs.Ytoommeiiadobfaa
