/- Which registers are live at each place: the program's Of. -/
import Derived.Test.YtoommeiiadobfaaDM16
import Derived.Test.YtoommeiiadobfaaDM14
import Derived.Deep.AppendLies
import Derived.Deep.RegionHeld3
import Derived.Test.YtoommeiiadobfaaDM12
namespace Go.Proofs.Ytoommeiiadobfaa
open Go.RowKit Go
set_option linter.unusedVariables false
set_option linter.unusedSimpArgs false
def MkE (n : Nat) (P : Nat → Prop) (w : World) (m : Nat → Mk) (c : List Value) : Prop := ∃ g, c = [.slice (some ⟨g, 0, none⟩) n n] ∧ P g ∧ Mks w g n m
theorem keptX_mk (n : Nat) (P : Nat → Prop) : KeptX P (MkE n P) := by
 rintro w w' x c hb ⟨g, rfl, hP, c2, h1, h2⟩
 exact ⟨g, rfl, hP, c2, (hb g hP (heap_lt h1)).trans h1, h2⟩
def OwT (w : World) (B n : Nat) (v : Value) (L : List (Nat → Mk)) : Prop := ∃ vs : List Value, w.ownsRow B 50 1 v L.length vs ∧ ∀ (k : Nat) m, L[k]? = some m → ∃ g, vs[k]? = some (.slice (some ⟨g, 0, none⟩) n n) ∧ Mks w g n m
theorem OwT.nil (w : World) (B n : Nat) : OwT w B n (.slice none 0 0) [] := ⟨[], World.ownsRow_nil _ _ _ _, fun k m h => by simp at h⟩
theorem OwT.shape {w : World} {B n : Nat} {v : Value} {L : List (Nat → Mk)} (h : OwT w B n v L) : ∃ A c, v = .slice A L.length c := by
 obtain ⟨vs, h1, _⟩ := h
 exact own_shape h1
theorem OwT.below {w w' : World} {B n : Nat} {v : Value} {L : List (Nat → Mk)} (h : OwT w B n v L) (hb : Below w.heap.size w w') : OwT w' B n v L := by
 obtain ⟨vs, h1, h2⟩ := h
 refine ⟨vs, own_below h1 hb, fun k m hk => ?_⟩
 obtain ⟨g, h3, h4⟩ := h2 k m hk
 exact ⟨g, h3, h4.below hb⟩
theorem OwT.rd {w : World} {B n : Nat} {v : Value} {L : List (Nat → Mk)} (h : OwT w B n v L) (hl : L.length ≤ 140737488355328) : RdX Tru 1 (MkE n Tru) w v L := by
 obtain ⟨vs, h1, h2⟩ := h
 obtain ⟨A, c, rfl⟩ := own_shape h1
 have hnil : A = none → c = 0 := by
  intro e
  rcases h1.2 with ⟨h3, _⟩ | ⟨g, cap, cur, h3, _⟩
  ·injection h3
  ·injection h3 with h3
   rw [e] at h3
   cases h3
 refine ⟨A, c, rfl, hnil, hl, fun k m hk => ?_⟩
 obtain ⟨gm, h3, h4⟩ := h2 k m hk
 have hkl := (List.getElem?_eq_some_iff.1 hk).1
 rcases h1.2 with ⟨_, h6⟩ | ⟨g, cp, cur, h6, hB, hg, _⟩
 ·omega
 ·injection h6 with e1 e2 e3
  subst e1 e3
  refine ⟨g, 0, [.slice (some ⟨gm, 0, none⟩) n n], rfl, trivial, ⟨gm, rfl, trivial, h4⟩, fun j u hj => ?_⟩
  cases j with
  | succ j => simp at hj
  | zero =>
   simp at hj
   subst hj
   have h7 := h1.cellAt k (by omega)
   rw [h3] at h7
   simpa using h7
theorem info_st : (Try.prog.info? 50).map (fun i => (i.zero, i.size, i.bytes)) = some (some (.slice none 0 0), 1, 24) := by kernel_rfl
def OfOut (f : FuI) (n R : Nat) (w : World) (e : Ending) (w' : World) : Prop := Below w.heap.size w w' ∧ ((chkN f ≠ 0 ∧ e = .returned (.pointer none)) ∨ (chkN f = 0 ∧ ∃ (TB : Nat) (NA : Option Addr) (nc : Nat) (u : Value) (L : List (Nat → Mk)), e = .returned (.pointer (some ⟨TB, 0, none⟩)) ∧ w'.heap[TB]? = some (.cells #[.slice NA n nc, u] 49 (0, 0)) ∧ RdX Tru 1 (LsE Tru) w' (.slice NA n nc) ((List.range n).map fun i => nextL f (i : Nat)) ∧ RdX Tru 1 (MkE n Tru) w' u L ∧ L.length = (R + 63) / 64 ∧ ∀ (k : Nat) m, L[k]? = some m → ∀ b i, b < 64 → i < n → ((m i).getLsbD b = true ↔ Rd f ((64 * k + b : Nat) : Int) i)))
set_option maxHeartbeats 16000000 in
set_option maxRecDepth 100000 in
theorem of_any {P : Nat → Prop} (f : FuI) (n R : Nat) (hn : f.code.length = n) (hR : f.regs.length = R) (fa fb fd fe : Value) (w : World) (h : Hid (FuV P w f fa fb fd fe)) (hq : Hid (FuQ f)) (hcap : Hid (∀ A n cap, fb = .slice A n cap → n ≤ cap ∧ cap ≤ maxLen)) (hcl : Hid ((f.code.length + 1) * 1024 ≤ 140737488355328)) (hrn : Hid (RwN f.rows)) (hrl : Hid (f.rows.length * 8 ≤ 140737488355328)) (hI : Hid (∀ x ∈ f.code, I64 (defI x) ∧ (∀ u ∈ usesI x, I64 u) ∧ x.args.length * 8 ≤ 140737488355328 ∧ (usesI x).length * 8 ≤ 140737488355328)) :
  Calls Try.prog 8 #[fuL fa fb f.ret fd fe] w fun e w' => OfOut f n R w e w' := by
 obtain ⟨FA, ac, hFA⟩ := h.out.a.shape
 subst hFA
 obtain ⟨FB, bc, hFB⟩ := h.out.b.shape
 subst hFB
 obtain ⟨D, dcap, hD⟩ := h.out.d.shape
 subst hD
 obtain ⟨E, ecap, hE⟩ := h.out.e.shape
 subst hE
 have HN := lhid hn
 have HR := lhid hR
 have hf2 := h.out
 rw [hn, hR] at hf2 ⊢
 have HFU := lhid hf2
 clear hn hf2 h hR
 obtain ⟨c, hc⟩ : ∃ c, chkN f = c := ⟨_, rfl⟩
 have HC := lhid hc
 clear hc
 go_enter Try.func8, Try.ntmps8
 go_wp2_with fail
 generalize hW : World.alloc _ _ = w0
 obtain ⟨B0, hB0⟩ : ∃ B, B = w.heap.size := ⟨_, rfl⟩
 have hb0 : Below B0 w w0 := by rw [← hW, hB0]; exact (Below.refl _ _).alloc (Nat.le_refl _) _
 have hF0 : FBox w0 B0 (.slice FA R ac) (.slice FB f.params.length bc) f.ret (.slice D n dcap) (.slice E f.rows.length ecap) := by rw [← hW, hB0]; exact heap_alloc_new w _
 rw [← hB0]
 have HB0 := lhid hB0
 have HF0 := lhid hF0
 have HBw := lhid hb0
 have HU0 := lhid (HFU.out.below (by rw [← hB0]; exact hb0))
 obtain ⟨p0, p1, p2, p3, p4⟩ := hF0.cells
 clear hW hb0 hF0 hB0
 try go_wp2_with fail
 with_reducible refine (check_r f _ _ _ _ c w0 HU0 hq hcap HC).mono ?_
 rintro e w1 ⟨rfl, hb⟩
 have HF1 : Hid (FBox w1 B0 (.slice FA R ac) (.slice FB f.params.length bc) f.ret (.slice D n dcap) (.slice E f.rows.length ecap)) := lhid (heap_keep HF0.out hb)
 have HB1 : Hid (Below B0 w w1) := lhid (HBw.out.trans (hb.mono (by have := heap_lt HF0.out; omega)))
 have HU1 := lhid (HFU.out.below (by rw [← HB0.out]; exact HB1.out))
 clear hb HF0 HBw HU0 p0 p1 p2 p3 p4
 obtain ⟨p0, p1, p2, p3, p4⟩ := HF1.out.cells
 by_cases hc0 : c = 0
 ·have hcb : (c != 0) = false := by rw [hc0]; rfl
  have HC0 : Hid (chkN f = 0) := lhid (HC.out.trans hc0)
  clear hc0
  go_wp2_with fail
  with_reducible refine (webOf_l f n HN.out _ _ _ _ w1 HU1 hcl (lhid (fun r hr => by have h9 := chk_rows9 HC0.out r hr; rw [HN.out] at h9; exact ⟨h9.1, h9.2.1⟩)) hI hrn hrl (lhid (fun k hk z hz => by have h9 := next_place HC0.out k z hz; rw [HN.out] at h9; exact h9)) (lhid (fun k z hz => by have h9 := caught_place HC0.out k z hz; rw [HN.out] at h9; exact h9))).mono ?_
  rintro e w2 ⟨UA, DA, NA, PA, TA, CA, uc, dc, nc, pc, tc, cc, Ps, Th, Cs, bg, rfl, hus, hds, hns, hps, hts, hcs, hPS, hTS, hCS, hb⟩
  have HUS := lhid hus
  have HDS := lhid hds
  have HNS := lhid hns
  have HPS := lhid hps
  have HTS := lhid hts
  have HCS := lhid hcs
  have HP := lhid hPS
  have HT := lhid hTS
  have HCC := lhid hCS
  have HF2 : Hid (FBox w2 B0 (.slice FA R ac) (.slice FB f.params.length bc) f.ret (.slice D n dcap) (.slice E f.rows.length ecap)) := lhid (heap_keep HF1.out hb)
  have HB2 : Hid (Below B0 w w2) := lhid (HB1.out.trans (hb.mono (by have := heap_lt HF1.out; omega)))
  clear hus hds hns hps hts hcs hPS hTS hCS hb HF1 HB1 HU1 p0 p1 p2 p3 p4
  go_wp2_with fail
  generalize hW : World.alloc _ _ = w3
  obtain ⟨WB, hWB⟩ : ∃ WB, WB = w2.heap.size := ⟨_, rfl⟩
  rw [← hWB]
  have HW2 : Hid (w2.heap.size = WB) := lhid hWB.symm
  have hb3 : Below w2.heap.size w2 w3 := by rw [← hW]; exact ((Below.refl _ _).alloc (Nat.le_refl _) _).alloc (by simp) _
  have HW3 : Hid (w3.heap[WB]? = some (.cells #[.slice UA n uc, .slice DA n dc, .slice NA n nc, .slice PA n pc, .slice TA Th.length tc, .slice CA n cc] 45 (0, 0))) := lhid (by rw [← hW, hWB]; exact heap_keep (heap_alloc_new w2 _) ((Below.refl _ _).alloc (Nat.le_refl _) _))
  have HT3 : Hid (w3.heap[WB + 1]? = some (.cells #[.slice NA n nc, .slice none 0 0] 49 (0, 0))) := lhid (by rw [← hW, hWB]; exact heap_alloc_new' _ _ _ (by simp))
  have HS3 : Hid (w3.heap.size = WB + 2) := lhid (by rw [← hW, hWB]; simp)
  have HB23 := lhid hb3
  have HF3 : Hid (FBox w3 B0 (.slice FA R ac) (.slice FB f.params.length bc) f.ret (.slice D n dcap) (.slice E f.rows.length ecap)) := lhid (heap_keep HF2.out hb3)
  have HB3 : Hid (Below B0 w w3) := lhid (HB2.out.trans (hb3.mono (by have := heap_lt HF2.out; omega)))
  have HBN : Hid (B0 < WB) := lhid (by have := heap_lt HF2.out; omega)
  have HSZ : Hid (R ≤ 20000 ∧ n ≤ 20000 ∧ Th.length ≤ n) := lhid (by have h1 := chk_sizes HC0.out; rw [HN.out, HR.out] at h1; exact ⟨h1.1, h1.2.1, HT.out.len.1⟩)
  have HLEN : Hid (((List.range n).map (usesAt f)).length = n ∧ ((List.range n).map (defAt f)).length = n ∧ Ps.length = n ∧ Th.length = Th.length ∧ Cs.length = n) := lhid ⟨by simp, by simp, HP.out.len, rfl, HCC.out.len⟩
  have HEL := lhid (web_hel HN.out HP.out HT.out HCC.out (fun x hx => ⟨(hI.out x hx).1, (hI.out x hx).2.1⟩))
  have HO3 : Hid (OwT w3 (WB + 2) n (.slice none 0 0) []) := lhid (OwT.nil _ _ _)
  obtain ⟨i0, hi0, hz0, hz1, hz2⟩ := info_parts info_st
  clear hW hWB hb3 HF2 HB2
  go_loopg [5] ((R + 63) / 64) (fun gg s wr => ∃ (F : Nat) (L : List (Nat → Mk)) (A : Option Addr) (q : Nat), gg = (R + 63) / 64 - L.length ∧ s = .int .i64 F ∧ Hid (F = 64 * L.length ∧ L.length ≤ (R + 63) / 64) ∧ Hid (Ch (fun b => b = WB + 1) w3 wr) ∧ Hid (wr.heap[WB + 1]? = some (.cells #[.slice NA n nc, .slice A L.length q] 49 (0, 0))) ∧ Hid (OwT wr (WB + 2) n (.slice A L.length q) L) ∧ Hid (∀ (k : Nat) mm, L[k]? = some mm → ∀ b i, b < 64 → i < n → ((mm i).getLsbD b = true ↔ Rd f ((64 * k + b : Nat) : Int) i)))
  case atStart => exact ⟨0, [], none, 0, rfl, rfl, lhid ⟨rfl, Nat.zero_le _⟩, lhid (Ch.refl _ _), HT3, HO3, lhid (fun k mm hk => by simp at hk)⟩
  case round =>
   clear HT3 HO3
   obtain ⟨F, L, A, q, rfl, rfl, HFL, HCh, HTr, HOr, HSP⟩ := hrel
   have HFr : Hid (FBox wr B0 (.slice FA R ac) (.slice FB f.params.length bc) f.ret (.slice D n dcap) (.slice E f.rows.length ecap)) := lhid (HCh.out.keep HF3.out (fun e => by have := HBN.out; omega))
   obtain ⟨p0, p1, p2, p3, p4⟩ := HFr.out.cells
   by_cases hlt : F < R
   ·have k3 : (F : Int) < R := Int.ofNat_lt.2 hlt
    have HMS : Hid ((R + 63) / 64 - (L.length + 1) < (R + 63) / 64 - L.length) := lhid (by have := HFL.out; omega)
    have HF : Hid (F = 64 * L.length) := lhid HFL.out.1
    have HKL : Hid (L.length + 1 ≤ (R + 63) / 64 ∧ R ≤ 20000) := lhid (by have h1 := HFL.out; have h2 := HSZ.out; omega)
    have hwF : wrap64 ((F : Int) + 64) = ((F + 64 : Nat) : Int) := by rw [IntWalk.wrap64_in _ (by have := HSZ.out; omega)]; omega
    have HBD : Hid (n * 2048 ≤ 140737488355328 ∧ Th.length * 1024 ≤ 140737488355328 ∧ F ≤ 1099511627776) := lhid (by have := HSZ.out; omega)
    go_upto_region 8 with fail
    clear p0 p1 p2 p3 p4
    obtain ⟨wz, hwz⟩ : ∃ wz, wz = wr.drew := ⟨_, rfl⟩
    have hbz : Below wr.heap.size wr wz := by rw [hwz]; exact Below.drew' (Below.refl _ _)
    have HCz := lhid (HCh.out.below hbz)
    have HTz := lhid (heap_keep HTr.out hbz)
    have HOz := lhid (HOr.out.below hbz)
    have HWz : Hid (wz.heap[WB]? = some (.cells #[.slice UA n uc, .slice DA n dc, .slice NA n nc, .slice PA n pc, .slice TA Th.length tc, .slice CA n cc] 45 (0, 0))) := lhid (heap_keep (HCh.out.keep HW3.out (fun e => by omega)) hbz)
    have HNZ : Hid (WB < wz.heap.size ∧ WB + 1 < wz.heap.size) := lhid ⟨heap_lt HWz.out, heap_lt HTz.out⟩
    have HB2z : Hid (Below w2.heap.size w2 wz) := lhid (HB23.out.trans (HCz.out.to HB23.out.size (fun b e => by have h1 := HW2.out; omega)))
    have HCELL : Hid (∀ w' : World, w'.heap[WB]? = wz.heap[WB]? → w'.cell? ⟨WB, 0, none⟩ = some (.slice UA n uc) ∧ w'.cell? ⟨WB, 1, none⟩ = some (.slice DA n dc) ∧ w'.cell? ⟨WB, 2, none⟩ = some (.slice NA n nc) ∧ w'.cell? ⟨WB, 3, none⟩ = some (.slice PA n pc) ∧ w'.cell? ⟨WB, 4, none⟩ = some (.slice TA Th.length tc) ∧ w'.cell? ⟨WB, 5, none⟩ = some (.slice CA n cc)) := lhid (fun w' hw' => by
     have h1 := hw'.trans HWz.out
     exact ⟨heap_cell h1 rfl, heap_cell h1 rfl, heap_cell h1 rfl, heap_cell h1 rfl, heap_cell h1 rfl, heap_cell h1 rfl⟩)
    refine wp_region_held_drew (S := fun w' => w'.heap[WB]? = wz.heap[WB]?) (by kernel_rfl) (by rw [hwz]) ?_
    intro hS0
    rw [← hwz] at hS0 ⊢
    clear hwz hbz HCh HTr HOr HFr
    refine wpAnyH_take (i := 0) (v := ?tv707) rfl (by kernel_rfl) (by kernel_rfl) (by kernel_rfl) (fun _ _ _ h => h) (Or.inl ⟨by rfl, ?ty707⟩) hS0 ?tr707
    case ty707 => (intro w' hw'; obtain ⟨b0, b1, b2, b3, b4, b5⟩ := HCELL.out w' hw'; go_simp; try with_reducible rfl)
    try simp only [List.getElem_toArray, List.getElem_cons_zero, List.getElem_cons_succ]
    try simp only [Act.put, List.setIfInBounds_toArray, List.set_cons_zero, List.set_cons_succ]
    refine wpAnyH_take (i := 1) (v := ?tv708) rfl (by kernel_rfl) (by kernel_rfl) (by kernel_rfl) (fun _ _ _ h => h) (Or.inl ⟨by rfl, ?ty708⟩) hS0 ?tr708
    case ty708 => (intro w' hw'; obtain ⟨b0, b1, b2, b3, b4, b5⟩ := HCELL.out w' hw'; go_simp; try with_reducible rfl)
    try simp only [List.getElem_toArray, List.getElem_cons_zero, List.getElem_cons_succ]
    try simp only [Act.put, List.setIfInBounds_toArray, List.set_cons_zero, List.set_cons_succ]
    refine wpAnyH_take (i := 2) (v := ?tv709) rfl (by kernel_rfl) (by kernel_rfl) (by kernel_rfl) (fun _ _ _ h => h) (Or.inl ⟨by rfl, ?ty709⟩) hS0 ?tr709
    case ty709 => (intro w' hw'; obtain ⟨b0, b1, b2, b3, b4, b5⟩ := HCELL.out w' hw'; go_simp; try with_reducible rfl)
    try simp only [List.getElem_toArray, List.getElem_cons_zero, List.getElem_cons_succ]
    try simp only [Act.put, List.setIfInBounds_toArray, List.set_cons_zero, List.set_cons_succ]
    refine wpAnyH_take (i := 3) (v := ?tv710) rfl (by kernel_rfl) (by kernel_rfl) (by kernel_rfl) (fun _ _ _ h => h) (Or.inl ⟨by rfl, ?ty710⟩) hS0 ?tr710
    case ty710 => (intro w' hw'; obtain ⟨b0, b1, b2, b3, b4, b5⟩ := HCELL.out w' hw'; go_simp; try with_reducible rfl)
    try simp only [List.getElem_toArray, List.getElem_cons_zero, List.getElem_cons_succ]
    try simp only [Act.put, List.setIfInBounds_toArray, List.set_cons_zero, List.set_cons_succ]
    refine wpAnyH_take (i := 5) (v := ?tv711) rfl (by kernel_rfl) (by kernel_rfl) (by kernel_rfl) (fun _ _ _ h => h) (Or.inl ⟨by rfl, ?ty711⟩) hS0 ?tr711
    case ty711 => (intro w' hw'; obtain ⟨b0, b1, b2, b3, b4, b5⟩ := HCELL.out w' hw'; go_simp; try with_reducible rfl)
    try simp only [List.getElem_toArray, List.getElem_cons_zero, List.getElem_cons_succ]
    try simp only [Act.put, List.setIfInBounds_toArray, List.set_cons_zero, List.set_cons_succ]
    refine wpAnyH_take (i := 6) (v := ?tv712) rfl (by kernel_rfl) (by kernel_rfl) (by kernel_rfl) (fun _ _ _ h => h) (Or.inl ⟨by rfl, ?ty712⟩) hS0 ?tr712
    case ty712 => (intro w' hw'; obtain ⟨b0, b1, b2, b3, b4, b5⟩ := HCELL.out w' hw'; go_simp; try with_reducible rfl)
    try simp only [List.getElem_toArray, List.getElem_cons_zero, List.getElem_cons_succ]
    try simp only [Act.put, List.setIfInBounds_toArray, List.set_cons_zero, List.set_cons_succ]
    refine wpAnyH_ready (rs := [4, 7]) (by kernel_rfl) (by simp) ?_
    refine AllReadyH.cons rfl (fun K hK => ?_) (AllReadyH.cons rfl (fun K hK => ?_) AllReadyH.nil)
    ·have g4 := heap_cell (i := 1) HTz.out rfl
     go_simp
     clear g4
     refine hK.out _ _ hS0 (fun _ => ?_)
     clear hK K
     try simp only [Act.put, List.setIfInBounds_toArray, List.set_cons_zero, List.set_cons_succ]
     refine wpAnyH_ready (rs := [7]) (by kernel_rfl) (by simp) ?_
     refine AllReadyH.cons rfl (fun K hK => ?_) AllReadyH.nil
     go_simp
     refine (spread_l n Th.length F _ Ps Th Cs _ UA DA NA PA TA CA uc dc nc pc tc cc wz (lhid (HUS.out.below (keptX_ls _) HB2z.out)) (lhid (HDS.out.below (keptX_nu _) HB2z.out)) (lhid (HPS.out.below (keptX_ls _) HB2z.out)) (lhid (HTS.out.below (keptX_ls _) HB2z.out)) (lhid (HCS.out.below (keptX_ls _) HB2z.out)) HLEN HBD HEL).mono ?_
     rintro e wa ⟨gs, m, rfl, hgs, hm, hcb, hba⟩
     have hSa : wa.heap[WB]? = wz.heap[WB]? := hba.block WB HNZ.out.1
     have htba : wa.heap[WB + 1]? = wz.heap[WB + 1]? := hba.block (WB + 1) HNZ.out.2
     dsimp only
     refine hK.out _ _ hSa (fun _ => ?_)
     clear hK K
     try simp only [Act.put, List.setIfInBounds_toArray, List.set_cons_zero, List.set_cons_succ]
     refine wpAnyH_ready (rs := [8]) (by kernel_rfl) (by simp) ?_
     refine AllReadyH.cons rfl (fun K hK => ?_) AllReadyH.nil
     go_simp
     have hSb : (wa.alloc (.cells #[.slice (some ⟨gs, 0, none⟩) n n] 50)).heap[WB]? = wz.heap[WB]? := (((Below.refl wa.heap.size wa).alloc (Nat.le_refl _) _).block WB (Nat.lt_of_lt_of_le HNZ.out.1 hba.size)).trans hSa
     refine hK.out _ _ hSb (fun _ => ?_)
     clear hK K
     try simp only [Act.put, List.setIfInBounds_toArray, List.set_cons_zero, List.set_cons_succ]
     refine wpAnyH_ready (rs := [9]) (by kernel_rfl) (by simp) ?_
     refine AllReadyH.cons rfl (fun K hK => ?_) AllReadyH.nil
     have hbb : Below wa.heap.size wa (wa.alloc (.cells #[.slice (some ⟨gs, 0, none⟩) n n] 50)) := (Below.refl _ _).alloc (Nat.le_refl _) _
     have hnb := heap_alloc_new wa (.cells #[.slice (some ⟨gs, 0, none⟩) n n] 50)
     obtain ⟨wb, hwb⟩ : ∃ wb, wb = wa.alloc (.cells #[.slice (some ⟨gs, 0, none⟩) n n] 50) := ⟨_, rfl⟩
     rw [← hwb] at hSb hbb hnb ⊢
     have hbzb : Below wz.heap.size wz wb := hba.trans (hbb.mono hba.size)
     obtain ⟨vs, hvs1, hvs2⟩ := (HOz.out.below hbzb)
     have hmb : Mks wb gs n m := hm.below hbb
     have h63 : L.length + 1 ≤ maxLen := by have := HKL.out; unfold maxLen; omega
     have hby : (L.length + 1) * 24 ≤ 140737488355328 := by have := HKL.out; omega
     have hCs : WB + 2 ≤ wb.heap.size := by have h1 := HNZ.out.2; have h2 := hbzb.size; omega
     clear hwb
     refine step_append_lies _ rfl (.tmp 26) (.tmp 30) 47 rfl (WB + 2) 50 i0 (.slice none 0 0) 1 24 Try.underlying47 hi0 hz0 hz1 hz2 rfl (by decide) (.slice A L.length q) L.length vs rfl hvs1 _ 1 _ [.slice (some ⟨gs, 0, none⟩) n n] rfl rfl (World.news_of_block hnb) (by simp [Value.oneCell']) (by decide) h63 hby hCs _ rfl ?_
     intro g' cap w6 hown hgrow hat hlt6
     have hc6 : Ch (fun b => (Value.slice A L.length q).ownBlock = some b) wb w6 := (Ch.refl (fun b => (Value.slice A L.length q).ownBlock = some b) wb).grown hgrow (fun k e _ => e)
     have hoB : ∀ b, (Value.slice A L.length q).ownBlock = some b → WB + 2 ≤ b := fun b e => (hvs1.lt b e).1
     have hS6 : w6.heap[WB]? = wz.heap[WB]? := (hc6.block WB (Nat.lt_of_lt_of_le HNZ.out.1 hbzb.size) (fun e => by have := hoB WB e; omega)).trans hSb
     have htb6 : w6.heap[WB + 1]? = some (.cells #[.slice NA n nc, .slice A L.length q] 49 (0, 0)) := (hc6.block (WB + 1) (Nat.lt_of_lt_of_le HNZ.out.2 hbzb.size) (fun e => by have := hoB (WB + 1) e; omega)).trans ((hbzb.block (WB + 1) HNZ.out.2).trans HTz.out)
     have keepM : ∀ {g mm}, Mks wb g n mm → Mks w6 g n mm := fun {g mm} h9 => h9.of (hc6.block g h9.lt (fun e => by
      obtain ⟨c9, h10, _⟩ := h9
      rcases hvs1.2 with ⟨h11, _⟩ | ⟨g2, cp2, cur2, h11, _, h12, _⟩
      ·rw [h11] at e; cases e
      ·rw [h11] at e
       injection e with e
       exact blk_ne h12 h10 (by decide) e))
     have c6 := heap_cell (i := 1) htb6 rfl
     have z6 := heap_thaw htb6 1
     have l6 := heap_lt htb6
     refine hK.out _ _ hS6 (fun _ => ?_)
     clear hK K
     try simp only [Act.put, List.setIfInBounds_toArray, List.set_cons_zero, List.set_cons_succ]
     refine wpAnyH_take (i := 10) (v := ?tv701) rfl (by kernel_rfl) (by kernel_rfl) (by kernel_rfl) (fun _ _ _ h => h) (Or.inl ⟨by rfl, ?ty701⟩) hS6 ?tr701
     case ty701 => (intro w' hw'; go_simp; try with_reducible rfl)
     try simp only [List.getElem_toArray, List.getElem_cons_zero, List.getElem_cons_succ]
     try simp only [Act.put, List.setIfInBounds_toArray, List.set_cons_zero, List.set_cons_succ]
     refine wpAnyH_take (i := 11) (v := ?tv702) rfl (by kernel_rfl) (by kernel_rfl) (by kernel_rfl) (fun _ _ _ h => h) (Or.inl ⟨by rfl, ?ty702⟩) hS6 ?tr702
     case ty702 => (intro w' hw'; go_simp; try with_reducible rfl)
     try simp only [List.getElem_toArray, List.getElem_cons_zero, List.getElem_cons_succ]
     try simp only [Act.put, List.setIfInBounds_toArray, List.set_cons_zero, List.set_cons_succ]
     refine wpAnyH_ready (rs := [12]) (by kernel_rfl) (by simp) ?_
     refine AllReadyH.cons rfl (fun K hK => ?_) AllReadyH.nil
     go_simp
     have hS7 : (w6.setCell ⟨WB + 1, 1, none⟩ (.slice (some ⟨g', 0, none⟩) (L.length + 1) cap)).heap[WB]? = wz.heap[WB]? := (Below.heap_setCell _ _ _ _ (by show WB ≠ WB + 1; omega)).trans hS6
     refine hK.out _ _ hS7 (fun _ => ?_)
     clear hK K
     try simp only [Act.put, List.setIfInBounds_toArray, List.set_cons_zero, List.set_cons_succ]
     refine wpAnyH_done (by kernel_rfl) ?_ _
     have hcT := (Ch.refl (fun b => b = WB + 1) w6).set (p := ⟨WB + 1, 1, none⟩) (fun _ => rfl) (.slice (some ⟨g', 0, none⟩) (L.length + 1) cap)
     have HT7 : Hid ((w6.setCell ⟨WB + 1, 1, none⟩ (.slice (some ⟨g', 0, none⟩) (L.length + 1) cap)).heap[WB + 1]? = some (.cells #[.slice NA n nc, .slice (some ⟨g', 0, none⟩) (L ++ [m]).length cap] 49 (0, 0))) := lhid (by rw [List.length_append]; exact heap_set htb6 _)
     have HO7 : Hid (OwT (w6.setCell ⟨WB + 1, 1, none⟩ (.slice (some ⟨g', 0, none⟩) (L.length + 1) cap)) (WB + 2) n (.slice (some ⟨g', 0, none⟩) (L ++ [m]).length cap) (L ++ [m])) := lhid (by
      refine ⟨vs ++ [.slice (some ⟨gs, 0, none⟩) n n], ?_, fun k mm hk => ?_⟩
      ·rw [List.length_append]
       exact own_ch hown hcT (fun b hb e => by have := (hown.lt b hb).1; omega)
      ·have keep7 : ∀ {g mm}, Mks wb g n mm → g ≠ WB + 1 → Mks (w6.setCell ⟨WB + 1, 1, none⟩ (.slice (some ⟨g', 0, none⟩) (L.length + 1) cap)) g n mm := fun h9 hg => (keepM h9).of (hcT.block _ (keepM h9).lt hg)
       have hneT : ∀ {g mm}, Mks wb g n mm → g ≠ WB + 1 := fun {g mm} h9 e => by
        obtain ⟨c9, h10, _⟩ := h9
        exact blk_ne ((hbzb.block (WB + 1) HNZ.out.2).trans HTz.out) h10 (by decide) e.symm
       have hvl : vs.length = L.length := by have := hvs1.1; omega
       by_cases e : k < L.length
       ·rw [List.getElem?_append_left e] at hk
        obtain ⟨g, h3, h4⟩ := hvs2 k mm hk
        exact ⟨g, by rw [List.getElem?_append_left (by omega)]; exact h3, keep7 h4 (hneT h4)⟩
       ·have hl := (List.getElem?_eq_some_iff.1 hk).1
        have hkl : k = L.length := by simp at hl; omega
        subst hkl
        rw [List.getElem?_append_right (Nat.le_refl _)] at hk
        simp at hk
        subst hk
        exact ⟨gs, by rw [List.getElem?_append_right (by omega), hvl]; simp, keep7 hmb (hneT hmb)⟩)
     have HC7 : Hid (Ch (fun b => b = WB + 1) w3 (w6.setCell ⟨WB + 1, 1, none⟩ (.slice (some ⟨g', 0, none⟩) (L.length + 1) cap))) := lhid (by
      have h1 := HCz.out.below hbzb
      have h2 : Ch (fun b => b = WB + 1) w3 w6 := ⟨hc6.os.trans h1.os, hc6.tape.trans h1.tape, hc6.output.trans h1.output, Nat.le_trans h1.size hc6.size, fun b hb hx => (hc6.block b (Nat.lt_of_lt_of_le hb h1.size) (fun e => by have h3 := hoB b e; have h4 := HS3.out; omega)).trans (h1.block b hb hx)⟩
      exact h2.set (p := ⟨WB + 1, 1, none⟩) (fun _ => rfl) _)
     have HSP7 : Hid (∀ (k : Nat) mm, (L ++ [m])[k]? = some mm → ∀ b i, b < 64 → i < n → ((mm i).getLsbD b = true ↔ Rd f ((64 * k + b : Nat) : Int) i)) := lhid (fun k mm hk b i hb hi => by
      by_cases e : k < L.length
      ·rw [List.getElem?_append_left e] at hk
       exact HSP.out k mm hk b i hb hi
      ·have hl := (List.getElem?_eq_some_iff.1 hk).1
       have hkl : k = L.length := by simp at hl; omega
       subst hkl
       rw [List.getElem?_append_right (Nat.le_refl _)] at hk
       simp at hk
       subst hk
       rw [hcb b i hi, cb_rd HN.out hb HP.out HT.out HCC.out i, HF.out]
       exact ⟨fun h => h.2, fun h => ⟨hi, h⟩⟩)
     clear hS0 hSa hSb hS6 hS7 hown hgrow hat hlt6 hc6 hoB htb6 keepM c6 z6 l6 hcT hvs1 hvs2 hmb hbzb hbb hnb hba hm hcb htba HSP HTz HOz HCz
     go_wp2_with fail
     go_roundg ((R + 63) / 64 - (L.length + 1))
     case measure => exact HMS.out
     case rel => exact ⟨F + 64, L ++ [m], _, cap, by rw [List.length_append]; rfl, by first | rfl | rw [hwF], lhid ⟨by have h1 := HF.out; rw [List.length_append, List.length_singleton]; omega, by have h1 := HKL.out.1; rw [List.length_append, List.length_singleton]; exact h1⟩, HC7, HT7, HO7, HSP7⟩
    ·go_simp
     refine (spread_l n Th.length F _ Ps Th Cs _ UA DA NA PA TA CA uc dc nc pc tc cc wz (lhid (HUS.out.below (keptX_ls _) HB2z.out)) (lhid (HDS.out.below (keptX_nu _) HB2z.out)) (lhid (HPS.out.below (keptX_ls _) HB2z.out)) (lhid (HTS.out.below (keptX_ls _) HB2z.out)) (lhid (HCS.out.below (keptX_ls _) HB2z.out)) HLEN HBD HEL).mono ?_
     rintro e wa ⟨gs, m, rfl, hgs, hm, hcb, hba⟩
     have hSa : wa.heap[WB]? = wz.heap[WB]? := hba.block WB HNZ.out.1
     have htba : wa.heap[WB + 1]? = wz.heap[WB + 1]? := hba.block (WB + 1) HNZ.out.2
     dsimp only
     refine hK.out _ _ hSa (fun _ => ?_)
     clear hK K
     try simp only [Act.put, List.setIfInBounds_toArray, List.set_cons_zero, List.set_cons_succ]
     refine wpAnyH_ready (rs := [4, 8]) (by kernel_rfl) (by simp) ?_
     refine AllReadyH.cons rfl (fun K hK => ?_) (AllReadyH.cons rfl (fun K hK => ?_) AllReadyH.nil)
     ·have g4 := heap_cell (i := 1) (htba.trans HTz.out) rfl
      go_simp
      clear g4
      refine hK.out _ _ hSa (fun _ => ?_)
      clear hK K
      try simp only [Act.put, List.setIfInBounds_toArray, List.set_cons_zero, List.set_cons_succ]
      refine wpAnyH_ready (rs := [8]) (by kernel_rfl) (by simp) ?_
      refine AllReadyH.cons rfl (fun K hK => ?_) AllReadyH.nil
      go_simp
      have hSb : (wa.alloc (.cells #[.slice (some ⟨gs, 0, none⟩) n n] 50)).heap[WB]? = wz.heap[WB]? := (((Below.refl wa.heap.size wa).alloc (Nat.le_refl _) _).block WB (Nat.lt_of_lt_of_le HNZ.out.1 hba.size)).trans hSa
      refine hK.out _ _ hSb (fun _ => ?_)
      clear hK K
      try simp only [Act.put, List.setIfInBounds_toArray, List.set_cons_zero, List.set_cons_succ]
      refine wpAnyH_ready (rs := [9]) (by kernel_rfl) (by simp) ?_
      refine AllReadyH.cons rfl (fun K hK => ?_) AllReadyH.nil
      have hbb : Below wa.heap.size wa (wa.alloc (.cells #[.slice (some ⟨gs, 0, none⟩) n n] 50)) := (Below.refl _ _).alloc (Nat.le_refl _) _
      have hnb := heap_alloc_new wa (.cells #[.slice (some ⟨gs, 0, none⟩) n n] 50)
      obtain ⟨wb, hwb⟩ : ∃ wb, wb = wa.alloc (.cells #[.slice (some ⟨gs, 0, none⟩) n n] 50) := ⟨_, rfl⟩
      rw [← hwb] at hSb hbb hnb ⊢
      have hbzb : Below wz.heap.size wz wb := hba.trans (hbb.mono hba.size)
      obtain ⟨vs, hvs1, hvs2⟩ := (HOz.out.below hbzb)
      have hmb : Mks wb gs n m := hm.below hbb
      have h63 : L.length + 1 ≤ maxLen := by have := HKL.out; unfold maxLen; omega
      have hby : (L.length + 1) * 24 ≤ 140737488355328 := by have := HKL.out; omega
      have hCs : WB + 2 ≤ wb.heap.size := by have h1 := HNZ.out.2; have h2 := hbzb.size; omega
      clear hwb
      refine step_append_lies _ rfl (.tmp 26) (.tmp 30) 47 rfl (WB + 2) 50 i0 (.slice none 0 0) 1 24 Try.underlying47 hi0 hz0 hz1 hz2 rfl (by decide) (.slice A L.length q) L.length vs rfl hvs1 _ 1 _ [.slice (some ⟨gs, 0, none⟩) n n] rfl rfl (World.news_of_block hnb) (by simp [Value.oneCell']) (by decide) h63 hby hCs _ rfl ?_
      intro g' cap w6 hown hgrow hat hlt6
      have hc6 : Ch (fun b => (Value.slice A L.length q).ownBlock = some b) wb w6 := (Ch.refl (fun b => (Value.slice A L.length q).ownBlock = some b) wb).grown hgrow (fun k e _ => e)
      have hoB : ∀ b, (Value.slice A L.length q).ownBlock = some b → WB + 2 ≤ b := fun b e => (hvs1.lt b e).1
      have hS6 : w6.heap[WB]? = wz.heap[WB]? := (hc6.block WB (Nat.lt_of_lt_of_le HNZ.out.1 hbzb.size) (fun e => by have := hoB WB e; omega)).trans hSb
      have htb6 : w6.heap[WB + 1]? = some (.cells #[.slice NA n nc, .slice A L.length q] 49 (0, 0)) := (hc6.block (WB + 1) (Nat.lt_of_lt_of_le HNZ.out.2 hbzb.size) (fun e => by have := hoB (WB + 1) e; omega)).trans ((hbzb.block (WB + 1) HNZ.out.2).trans HTz.out)
      have keepM : ∀ {g mm}, Mks wb g n mm → Mks w6 g n mm := fun {g mm} h9 => h9.of (hc6.block g h9.lt (fun e => by
       obtain ⟨c9, h10, _⟩ := h9
       rcases hvs1.2 with ⟨h11, _⟩ | ⟨g2, cp2, cur2, h11, _, h12, _⟩
       ·rw [h11] at e; cases e
       ·rw [h11] at e
        injection e with e
        exact blk_ne h12 h10 (by decide) e))
      have c6 := heap_cell (i := 1) htb6 rfl
      have z6 := heap_thaw htb6 1
      have l6 := heap_lt htb6
      refine hK.out _ _ hS6 (fun _ => ?_)
      clear hK K
      try simp only [Act.put, List.setIfInBounds_toArray, List.set_cons_zero, List.set_cons_succ]
      refine wpAnyH_take (i := 10) (v := ?tv703) rfl (by kernel_rfl) (by kernel_rfl) (by kernel_rfl) (fun _ _ _ h => h) (Or.inl ⟨by rfl, ?ty703⟩) hS6 ?tr703
      case ty703 => (intro w' hw'; go_simp; try with_reducible rfl)
      try simp only [List.getElem_toArray, List.getElem_cons_zero, List.getElem_cons_succ]
      try simp only [Act.put, List.setIfInBounds_toArray, List.set_cons_zero, List.set_cons_succ]
      refine wpAnyH_take (i := 11) (v := ?tv704) rfl (by kernel_rfl) (by kernel_rfl) (by kernel_rfl) (fun _ _ _ h => h) (Or.inl ⟨by rfl, ?ty704⟩) hS6 ?tr704
      case ty704 => (intro w' hw'; go_simp; try with_reducible rfl)
      try simp only [List.getElem_toArray, List.getElem_cons_zero, List.getElem_cons_succ]
      try simp only [Act.put, List.setIfInBounds_toArray, List.set_cons_zero, List.set_cons_succ]
      refine wpAnyH_ready (rs := [12]) (by kernel_rfl) (by simp) ?_
      refine AllReadyH.cons rfl (fun K hK => ?_) AllReadyH.nil
      go_simp
      have hS7 : (w6.setCell ⟨WB + 1, 1, none⟩ (.slice (some ⟨g', 0, none⟩) (L.length + 1) cap)).heap[WB]? = wz.heap[WB]? := (Below.heap_setCell _ _ _ _ (by show WB ≠ WB + 1; omega)).trans hS6
      refine hK.out _ _ hS7 (fun _ => ?_)
      clear hK K
      try simp only [Act.put, List.setIfInBounds_toArray, List.set_cons_zero, List.set_cons_succ]
      refine wpAnyH_done (by kernel_rfl) ?_ _
      have hcT := (Ch.refl (fun b => b = WB + 1) w6).set (p := ⟨WB + 1, 1, none⟩) (fun _ => rfl) (.slice (some ⟨g', 0, none⟩) (L.length + 1) cap)
      have HT7 : Hid ((w6.setCell ⟨WB + 1, 1, none⟩ (.slice (some ⟨g', 0, none⟩) (L.length + 1) cap)).heap[WB + 1]? = some (.cells #[.slice NA n nc, .slice (some ⟨g', 0, none⟩) (L ++ [m]).length cap] 49 (0, 0))) := lhid (by rw [List.length_append]; exact heap_set htb6 _)
      have HO7 : Hid (OwT (w6.setCell ⟨WB + 1, 1, none⟩ (.slice (some ⟨g', 0, none⟩) (L.length + 1) cap)) (WB + 2) n (.slice (some ⟨g', 0, none⟩) (L ++ [m]).length cap) (L ++ [m])) := lhid (by
       refine ⟨vs ++ [.slice (some ⟨gs, 0, none⟩) n n], ?_, fun k mm hk => ?_⟩
       ·rw [List.length_append]
        exact own_ch hown hcT (fun b hb e => by have := (hown.lt b hb).1; omega)
       ·have keep7 : ∀ {g mm}, Mks wb g n mm → g ≠ WB + 1 → Mks (w6.setCell ⟨WB + 1, 1, none⟩ (.slice (some ⟨g', 0, none⟩) (L.length + 1) cap)) g n mm := fun h9 hg => (keepM h9).of (hcT.block _ (keepM h9).lt hg)
        have hneT : ∀ {g mm}, Mks wb g n mm → g ≠ WB + 1 := fun {g mm} h9 e => by
         obtain ⟨c9, h10, _⟩ := h9
         exact blk_ne ((hbzb.block (WB + 1) HNZ.out.2).trans HTz.out) h10 (by decide) e.symm
        have hvl : vs.length = L.length := by have := hvs1.1; omega
        by_cases e : k < L.length
        ·rw [List.getElem?_append_left e] at hk
         obtain ⟨g, h3, h4⟩ := hvs2 k mm hk
         exact ⟨g, by rw [List.getElem?_append_left (by omega)]; exact h3, keep7 h4 (hneT h4)⟩
        ·have hl := (List.getElem?_eq_some_iff.1 hk).1
         have hkl : k = L.length := by simp at hl; omega
         subst hkl
         rw [List.getElem?_append_right (Nat.le_refl _)] at hk
         simp at hk
         subst hk
         exact ⟨gs, by rw [List.getElem?_append_right (by omega), hvl]; simp, keep7 hmb (hneT hmb)⟩)
      have HC7 : Hid (Ch (fun b => b = WB + 1) w3 (w6.setCell ⟨WB + 1, 1, none⟩ (.slice (some ⟨g', 0, none⟩) (L.length + 1) cap))) := lhid (by
       have h1 := HCz.out.below hbzb
       have h2 : Ch (fun b => b = WB + 1) w3 w6 := ⟨hc6.os.trans h1.os, hc6.tape.trans h1.tape, hc6.output.trans h1.output, Nat.le_trans h1.size hc6.size, fun b hb hx => (hc6.block b (Nat.lt_of_lt_of_le hb h1.size) (fun e => by have h3 := hoB b e; have h4 := HS3.out; omega)).trans (h1.block b hb hx)⟩
       exact h2.set (p := ⟨WB + 1, 1, none⟩) (fun _ => rfl) _)
      have HSP7 : Hid (∀ (k : Nat) mm, (L ++ [m])[k]? = some mm → ∀ b i, b < 64 → i < n → ((mm i).getLsbD b = true ↔ Rd f ((64 * k + b : Nat) : Int) i)) := lhid (fun k mm hk b i hb hi => by
       by_cases e : k < L.length
       ·rw [List.getElem?_append_left e] at hk
        exact HSP.out k mm hk b i hb hi
       ·have hl := (List.getElem?_eq_some_iff.1 hk).1
        have hkl : k = L.length := by simp at hl; omega
        subst hkl
        rw [List.getElem?_append_right (Nat.le_refl _)] at hk
        simp at hk
        subst hk
        rw [hcb b i hi, cb_rd HN.out hb HP.out HT.out HCC.out i, HF.out]
        exact ⟨fun h => h.2, fun h => ⟨hi, h⟩⟩)
      clear hS0 hSa hSb hS6 hS7 hown hgrow hat hlt6 hc6 hoB htb6 keepM c6 z6 l6 hcT hvs1 hvs2 hmb hbzb hbb hnb hba hm hcb htba HSP HTz HOz HCz
      go_wp2_with fail
      go_roundg ((R + 63) / 64 - (L.length + 1))
      case measure => exact HMS.out
      case rel => exact ⟨F + 64, L ++ [m], _, cap, by rw [List.length_append]; rfl, by first | rfl | rw [hwF], lhid ⟨by have h1 := HF.out; rw [List.length_append, List.length_singleton]; omega, by have h1 := HKL.out.1; rw [List.length_append, List.length_singleton]; exact h1⟩, HC7, HT7, HO7, HSP7⟩
     ·go_simp
      have hSb : (wa.alloc (.cells #[.slice (some ⟨gs, 0, none⟩) n n] 50)).heap[WB]? = wz.heap[WB]? := (((Below.refl wa.heap.size wa).alloc (Nat.le_refl _) _).block WB (Nat.lt_of_lt_of_le HNZ.out.1 hba.size)).trans hSa
      refine hK.out _ _ hSb (fun _ => ?_)
      clear hK K
      try simp only [Act.put, List.setIfInBounds_toArray, List.set_cons_zero, List.set_cons_succ]
      refine wpAnyH_ready (rs := [4]) (by kernel_rfl) (by simp) ?_
      refine AllReadyH.cons rfl (fun K hK => ?_) AllReadyH.nil
      have g4 := heap_cell (i := 1) ((((Below.refl wa.heap.size wa).alloc (Nat.le_refl _) (.cells #[.slice (some ⟨gs, 0, none⟩) n n] 50)).block (WB + 1) (Nat.lt_of_lt_of_le HNZ.out.2 hba.size)).trans (htba.trans HTz.out)) rfl
      go_simp
      clear g4
      refine hK.out _ _ hSb (fun _ => ?_)
      clear hK K
      try simp only [Act.put, List.setIfInBounds_toArray, List.set_cons_zero, List.set_cons_succ]
      refine wpAnyH_ready (rs := [9]) (by kernel_rfl) (by simp) ?_
      refine AllReadyH.cons rfl (fun K hK => ?_) AllReadyH.nil
      have hbb : Below wa.heap.size wa (wa.alloc (.cells #[.slice (some ⟨gs, 0, none⟩) n n] 50)) := (Below.refl _ _).alloc (Nat.le_refl _) _
      have hnb := heap_alloc_new wa (.cells #[.slice (some ⟨gs, 0, none⟩) n n] 50)
      obtain ⟨wb, hwb⟩ : ∃ wb, wb = wa.alloc (.cells #[.slice (some ⟨gs, 0, none⟩) n n] 50) := ⟨_, rfl⟩
      rw [← hwb] at hSb hbb hnb ⊢
      have hbzb : Below wz.heap.size wz wb := hba.trans (hbb.mono hba.size)
      obtain ⟨vs, hvs1, hvs2⟩ := (HOz.out.below hbzb)
      have hmb : Mks wb gs n m := hm.below hbb
      have h63 : L.length + 1 ≤ maxLen := by have := HKL.out; unfold maxLen; omega
      have hby : (L.length + 1) * 24 ≤ 140737488355328 := by have := HKL.out; omega
      have hCs : WB + 2 ≤ wb.heap.size := by have h1 := HNZ.out.2; have h2 := hbzb.size; omega
      clear hwb
      refine step_append_lies _ rfl (.tmp 26) (.tmp 30) 47 rfl (WB + 2) 50 i0 (.slice none 0 0) 1 24 Try.underlying47 hi0 hz0 hz1 hz2 rfl (by decide) (.slice A L.length q) L.length vs rfl hvs1 _ 1 _ [.slice (some ⟨gs, 0, none⟩) n n] rfl rfl (World.news_of_block hnb) (by simp [Value.oneCell']) (by decide) h63 hby hCs _ rfl ?_
      intro g' cap w6 hown hgrow hat hlt6
      have hc6 : Ch (fun b => (Value.slice A L.length q).ownBlock = some b) wb w6 := (Ch.refl (fun b => (Value.slice A L.length q).ownBlock = some b) wb).grown hgrow (fun k e _ => e)
      have hoB : ∀ b, (Value.slice A L.length q).ownBlock = some b → WB + 2 ≤ b := fun b e => (hvs1.lt b e).1
      have hS6 : w6.heap[WB]? = wz.heap[WB]? := (hc6.block WB (Nat.lt_of_lt_of_le HNZ.out.1 hbzb.size) (fun e => by have := hoB WB e; omega)).trans hSb
      have htb6 : w6.heap[WB + 1]? = some (.cells #[.slice NA n nc, .slice A L.length q] 49 (0, 0)) := (hc6.block (WB + 1) (Nat.lt_of_lt_of_le HNZ.out.2 hbzb.size) (fun e => by have := hoB (WB + 1) e; omega)).trans ((hbzb.block (WB + 1) HNZ.out.2).trans HTz.out)
      have keepM : ∀ {g mm}, Mks wb g n mm → Mks w6 g n mm := fun {g mm} h9 => h9.of (hc6.block g h9.lt (fun e => by
       obtain ⟨c9, h10, _⟩ := h9
       rcases hvs1.2 with ⟨h11, _⟩ | ⟨g2, cp2, cur2, h11, _, h12, _⟩
       ·rw [h11] at e; cases e
       ·rw [h11] at e
        injection e with e
        exact blk_ne h12 h10 (by decide) e))
      have c6 := heap_cell (i := 1) htb6 rfl
      have z6 := heap_thaw htb6 1
      have l6 := heap_lt htb6
      refine hK.out _ _ hS6 (fun _ => ?_)
      clear hK K
      try simp only [Act.put, List.setIfInBounds_toArray, List.set_cons_zero, List.set_cons_succ]
      refine wpAnyH_take (i := 10) (v := ?tv705) rfl (by kernel_rfl) (by kernel_rfl) (by kernel_rfl) (fun _ _ _ h => h) (Or.inl ⟨by rfl, ?ty705⟩) hS6 ?tr705
      case ty705 => (intro w' hw'; go_simp; try with_reducible rfl)
      try simp only [List.getElem_toArray, List.getElem_cons_zero, List.getElem_cons_succ]
      try simp only [Act.put, List.setIfInBounds_toArray, List.set_cons_zero, List.set_cons_succ]
      refine wpAnyH_take (i := 11) (v := ?tv706) rfl (by kernel_rfl) (by kernel_rfl) (by kernel_rfl) (fun _ _ _ h => h) (Or.inl ⟨by rfl, ?ty706⟩) hS6 ?tr706
      case ty706 => (intro w' hw'; go_simp; try with_reducible rfl)
      try simp only [List.getElem_toArray, List.getElem_cons_zero, List.getElem_cons_succ]
      try simp only [Act.put, List.setIfInBounds_toArray, List.set_cons_zero, List.set_cons_succ]
      refine wpAnyH_ready (rs := [12]) (by kernel_rfl) (by simp) ?_
      refine AllReadyH.cons rfl (fun K hK => ?_) AllReadyH.nil
      go_simp
      have hS7 : (w6.setCell ⟨WB + 1, 1, none⟩ (.slice (some ⟨g', 0, none⟩) (L.length + 1) cap)).heap[WB]? = wz.heap[WB]? := (Below.heap_setCell _ _ _ _ (by show WB ≠ WB + 1; omega)).trans hS6
      refine hK.out _ _ hS7 (fun _ => ?_)
      clear hK K
      try simp only [Act.put, List.setIfInBounds_toArray, List.set_cons_zero, List.set_cons_succ]
      refine wpAnyH_done (by kernel_rfl) ?_ _
      have hcT := (Ch.refl (fun b => b = WB + 1) w6).set (p := ⟨WB + 1, 1, none⟩) (fun _ => rfl) (.slice (some ⟨g', 0, none⟩) (L.length + 1) cap)
      have HT7 : Hid ((w6.setCell ⟨WB + 1, 1, none⟩ (.slice (some ⟨g', 0, none⟩) (L.length + 1) cap)).heap[WB + 1]? = some (.cells #[.slice NA n nc, .slice (some ⟨g', 0, none⟩) (L ++ [m]).length cap] 49 (0, 0))) := lhid (by rw [List.length_append]; exact heap_set htb6 _)
      have HO7 : Hid (OwT (w6.setCell ⟨WB + 1, 1, none⟩ (.slice (some ⟨g', 0, none⟩) (L.length + 1) cap)) (WB + 2) n (.slice (some ⟨g', 0, none⟩) (L ++ [m]).length cap) (L ++ [m])) := lhid (by
       refine ⟨vs ++ [.slice (some ⟨gs, 0, none⟩) n n], ?_, fun k mm hk => ?_⟩
       ·rw [List.length_append]
        exact own_ch hown hcT (fun b hb e => by have := (hown.lt b hb).1; omega)
       ·have keep7 : ∀ {g mm}, Mks wb g n mm → g ≠ WB + 1 → Mks (w6.setCell ⟨WB + 1, 1, none⟩ (.slice (some ⟨g', 0, none⟩) (L.length + 1) cap)) g n mm := fun h9 hg => (keepM h9).of (hcT.block _ (keepM h9).lt hg)
        have hneT : ∀ {g mm}, Mks wb g n mm → g ≠ WB + 1 := fun {g mm} h9 e => by
         obtain ⟨c9, h10, _⟩ := h9
         exact blk_ne ((hbzb.block (WB + 1) HNZ.out.2).trans HTz.out) h10 (by decide) e.symm
        have hvl : vs.length = L.length := by have := hvs1.1; omega
        by_cases e : k < L.length
        ·rw [List.getElem?_append_left e] at hk
         obtain ⟨g, h3, h4⟩ := hvs2 k mm hk
         exact ⟨g, by rw [List.getElem?_append_left (by omega)]; exact h3, keep7 h4 (hneT h4)⟩
        ·have hl := (List.getElem?_eq_some_iff.1 hk).1
         have hkl : k = L.length := by simp at hl; omega
         subst hkl
         rw [List.getElem?_append_right (Nat.le_refl _)] at hk
         simp at hk
         subst hk
         exact ⟨gs, by rw [List.getElem?_append_right (by omega), hvl]; simp, keep7 hmb (hneT hmb)⟩)
      have HC7 : Hid (Ch (fun b => b = WB + 1) w3 (w6.setCell ⟨WB + 1, 1, none⟩ (.slice (some ⟨g', 0, none⟩) (L.length + 1) cap))) := lhid (by
       have h1 := HCz.out.below hbzb
       have h2 : Ch (fun b => b = WB + 1) w3 w6 := ⟨hc6.os.trans h1.os, hc6.tape.trans h1.tape, hc6.output.trans h1.output, Nat.le_trans h1.size hc6.size, fun b hb hx => (hc6.block b (Nat.lt_of_lt_of_le hb h1.size) (fun e => by have h3 := hoB b e; have h4 := HS3.out; omega)).trans (h1.block b hb hx)⟩
       exact h2.set (p := ⟨WB + 1, 1, none⟩) (fun _ => rfl) _)
      have HSP7 : Hid (∀ (k : Nat) mm, (L ++ [m])[k]? = some mm → ∀ b i, b < 64 → i < n → ((mm i).getLsbD b = true ↔ Rd f ((64 * k + b : Nat) : Int) i)) := lhid (fun k mm hk b i hb hi => by
       by_cases e : k < L.length
       ·rw [List.getElem?_append_left e] at hk
        exact HSP.out k mm hk b i hb hi
       ·have hl := (List.getElem?_eq_some_iff.1 hk).1
        have hkl : k = L.length := by simp at hl; omega
        subst hkl
        rw [List.getElem?_append_right (Nat.le_refl _)] at hk
        simp at hk
        subst hk
        rw [hcb b i hi, cb_rd HN.out hb HP.out HT.out HCC.out i, HF.out]
        exact ⟨fun h => h.2, fun h => ⟨hi, h⟩⟩)
      clear hS0 hSa hSb hS6 hS7 hown hgrow hat hlt6 hc6 hoB htb6 keepM c6 z6 l6 hcT hvs1 hvs2 hmb hbzb hbb hnb hba hm hcb htba HSP HTz HOz HCz
      go_wp2_with fail
      go_roundg ((R + 63) / 64 - (L.length + 1))
      case measure => exact HMS.out
      case rel => exact ⟨F + 64, L ++ [m], _, cap, by rw [List.length_append]; rfl, by first | rfl | rw [hwF], lhid ⟨by have h1 := HF.out; rw [List.length_append, List.length_singleton]; omega, by have h1 := HKL.out.1; rw [List.length_append, List.length_singleton]; exact h1⟩, HC7, HT7, HO7, HSP7⟩
   ·have k3 : ¬ (F : Int) < R := by omega
    have HLN : Hid (L.length = (R + 63) / 64) := lhid (by have := HFL.out; omega)
    go_wp2_with fail
    go_ret
    exact ⟨by rw [← HB0.out]; exact HB3.out.trans (HCh.out.to (by have h1 := HB3.out.size; have h2 := HB0.out; omega) (fun b e => by have := HBN.out; omega)), .inr ⟨HC0.out, WB + 1, NA, nc, _, L, rfl, HTr.out, (HNS.out.below (keptX_ls _) (HB23.out.trans (HCh.out.to HB23.out.size (fun b e => by have h1 := HW2.out; omega)))), HOr.out.rd (by have h1 := HFL.out; have h2 := HSZ.out; omega), HLN.out, HSP.out⟩⟩
 ·have hcb : (c != 0) = true := by simpa using hc0
  have HCN : Hid (chkN f ≠ 0) := lhid (by rw [HC.out]; exact hc0)
  clear hc0
  go_wp2_with fail
  go_ret
  exact ⟨by rw [← HB0.out]; exact HB1.out, .inl ⟨HCN.out, rfl⟩⟩
end Go.Proofs.Ytoommeiiadobfaa
