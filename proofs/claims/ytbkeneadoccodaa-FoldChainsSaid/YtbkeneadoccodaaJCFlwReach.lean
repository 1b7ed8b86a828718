/- What can be reached from the beginning: the program's Reach. -/
import Derived.Test.YtbkeneadoccodaaJCFlwSpreadR
namespace Go.Proofs.Ytbkeneadoccodaa
open Go.RowKit Go
set_option linter.unusedVariables false
set_option linter.unusedSimpArgs false
def reachP (f : FuI) (i : Nat) : Prop := Comes (webN f) 1 (fun _ => 0) 0 i
def IsReach (f : FuI) (R : List Bool) : Prop := R.length = f.code.length ∧ ∀ (i : Nat) b, R[i]? = some b → (b = true ↔ reachP f i)
theorem one_bit {b : Nat} (h : (1 : Mk).getLsbD b = true) : b = 0 := by
 have hb : b < 64 := BitVec.lt_of_getLsbD h
 apply Classical.byContradiction
 intro hn
 have h2 : (1 : Mk).getLsbD b = false := by
  rw [BitVec.getLsbD, show (1 : Mk).toNat = 1 from rfl, Nat.testBit_eq_decide_div_mod_eq]
  have h3 : 1 / 2 ^ b = 0 := Nat.div_eq_of_lt (Nat.one_lt_two_pow hn)
  rw [h3]
  rfl
 rw [h2] at h
 cases h
theorem comes_beg {W : WbN} {beg : Mk} {sp : Nat → Mk} {b i : Nat} (h : Comes W beg sp b i) : beg.getLsbD b = true := by
 induction h with
 | first _ h => exact h
 | next _ _ _ _ _ ih => exact ih
 | caught _ _ _ _ _ ih => exact ih
theorem reach_marks {f : FuI} {m : Nat → Mk} (h : ∀ b i, i < f.code.length → ((m i).getLsbD b = true ↔ Comes (webN f) 1 (fun _ => 0) b i)) {i : Nat} (hi : i < f.code.length) : decide (m i ≠ 0) = true ↔ reachP f i := by
 rw [decide_eq_true_eq]
 constructor
 ·intro hne
  obtain ⟨b, _, hb⟩ := bits_ne hne
  have hc := (h b i hi).1 hb
  obtain rfl := one_bit (comes_beg hc)
  exact hc
 ·intro hr e
  have := (h 0 i hi).2 hr
  rw [e] at this
  simp at this
def BooB (w : World) (g n : Nat) (F : Nat → Bool) (k : Nat) : Prop := ∃ c : Array Value, w.heap[g]? = some (.cells c 4 (0, 0)) ∧ c.size = n ∧ ∀ j, j < n → ∃ z : Bool, c[j]? = some (.bool z) ∧ (j < k → z = F j)
theorem BooB.fz {w : World} {g n k : Nat} {F : Nat → Bool} (h : BooB w g n F k) (i : Nat) : w.frozen? ⟨g, i, none⟩ = false := by
 obtain ⟨c, h1, _⟩ := h
 exact heap_thaw h1 i
theorem BooB.lt {w : World} {g n k : Nat} {F : Nat → Bool} (h : BooB w g n F k) : g < w.heap.size := by
 obtain ⟨c, h1, _⟩ := h
 exact heap_lt h1
theorem BooB.any {w : World} {g n k i : Nat} {F : Nat → Bool} (h : BooB w g n F k) (hi : i < n) : ∃ z : Bool, w.cell? ⟨g, i, none⟩ = some (.bool z) := by
 obtain ⟨c, h1, h2, h3⟩ := h
 obtain ⟨z, h4, _⟩ := h3 i hi
 exact ⟨z, heap_cell h1 h4⟩
theorem BooB.of {w w' : World} {g n k : Nat} {F : Nat → Bool} (h : BooB w g n F k) (e : w'.heap[g]? = w.heap[g]?) : BooB w' g n F k := by
 obtain ⟨c, h1, h2⟩ := h
 exact ⟨c, e.trans h1, h2⟩
theorem BooB.put {w : World} {g n k : Nat} {F : Nat → Bool} (h : BooB w g n F k) {z : Bool} (hz : z = F k) : BooB (w.setCell ⟨g, k, none⟩ (.bool z)) g n F (k + 1) := by
 obtain ⟨c, h1, h2, h3⟩ := h
 refine ⟨_, heap_set h1 _, by simpa using h2, fun j hj => ?_⟩
 by_cases e : k = j
 ·subst e
  exact ⟨z, by rw [Array.getElem?_setIfInBounds, if_pos rfl, if_pos (by omega)], fun _ => hz⟩
 ·obtain ⟨y, h4, h5⟩ := h3 j hj
  exact ⟨y, by rw [Array.getElem?_setIfInBounds, if_neg e]; exact h4, fun h => h5 (by omega)⟩
theorem BooB.made (w : World) (n : Nat) (F : Nat → Bool) : BooB (w.alloc (.cells (madeCells #[.bool false] n) 4)) w.heap.size n F 0 :=
 ⟨_, heap_alloc_new w _, by rw [size_madeCells], fun i hi => ⟨false, made_at0 _ _ _ _ hi (by rw [show i % (#[Value.bool false] : Array Value).size = 0 from Nat.mod_one i]; rfl), fun h => by omega⟩⟩
theorem BooB.rd {w : World} {g n : Nat} {F : Nat → Bool} (h : BooB w g n F n) (hn : n ≤ 140737488355328) : RdX (fun b => b = g) 1 BlE w (.slice (some ⟨g, 0, none⟩) n n) ((List.range n).map F) := by
 obtain ⟨c, h1, h2, h3⟩ := h
 refine ⟨some ⟨g, 0, none⟩, n, by simp, fun e => (by cases e), by simpa using hn, fun i a hi => ?_⟩
 have hi2 : i < n := by have := (List.getElem?_eq_some_iff.1 hi).1; simpa using this
 obtain ⟨z, h4, h5⟩ := h3 i hi2
 have ha : a = F i := by simp [hi2] at hi; exact hi.symm
 refine ⟨g, 0, [.bool a], rfl, rfl, rfl, fun j u hj => ?_⟩
 cases j with
 | zero =>
  simp at hj
  subst hj
  have h6 := heap_cell h1 h4
  rw [h5 hi2] at h6
  simpa [ha] using h6
 | succ j => simp at hj
theorem spread_one {P : Nat → Prop} (f : FuI) (fa fb fd fe : Value) (gn gs : Nat) (w : World) (h : Hid (FuV P w f fa fb fd fe)) (hcl : Hid ((f.code.length + 1) * 1024 ≤ 140737488355328)) (hrn : Hid (RwN f.rows)) (hrl : Hid (f.rows.length * 8 ≤ 140737488355328)) (hLn : Hid (LstB w gn f.code.length 0 (fun i => nextL f i) f.code.length)) (hSn : Hid (NumB w gs f.code.length (strN f.rows) f.code.length)) :
  Calls Try.prog 66 #[.agg #[fa, fb, .int .i64 f.ret, fd, fe, .slice (some ⟨gn, 0, none⟩) f.code.length f.code.length, .slice (some ⟨gs, 0, none⟩) f.code.length f.code.length], .int .u64 1, (.func (.func 77) #[] #[])] w fun e w' => ∃ (g : Nat) (m : Nat → Mk), e = .returned (.slice (some ⟨g, 0, none⟩) f.code.length f.code.length) ∧ w.heap.size ≤ g ∧ Msk w' g f.code.length m ∧ (∀ b i, i < f.code.length → ((m i).getLsbD b = true ↔ Comes (webN f) 1 (fun _ => 0) b i)) ∧ Below w.heap.size w w' := by
 have h9 := spread_R f fa fb fd fe gn gs 1 w h hcl hrn hrl hLn hSn
 have e : ((1 : Mk).toNat : Int) = 1 := by decide
 rw [e] at h9
 exact h9
set_option maxHeartbeats 16000000 in
set_option maxRecDepth 100000 in
theorem reach_any {P : Nat → Prop} (f : FuI) (fa fb fd fe : Value) (w : World) (h : Hid (FuV P w f fa fb fd fe)) (hcl : Hid ((f.code.length + 1) * 1024 ≤ 140737488355328)) (hrn : Hid (RwN f.rows)) (hrl : Hid (f.rows.length * 8 ≤ 140737488355328)) :
  Calls Try.prog 36 #[fuL fa fb f.ret fd fe] w fun e w' => ∃ (g : Nat) (R : List Bool), e = .returned (.slice (some ⟨g, 0, none⟩) f.code.length f.code.length) ∧ w.heap.size ≤ g ∧ RdX (fun b => b = g) 1 BlE w' (.slice (some ⟨g, 0, none⟩) f.code.length f.code.length) R ∧ IsReach f R ∧ Below w.heap.size w w' := by
 obtain ⟨FA, ac, hFA⟩ := h.out.a.shape
 subst hFA
 obtain ⟨FB, bc, hFB⟩ := h.out.b.shape
 subst hFB
 obtain ⟨D, dcap, hD⟩ := h.out.d.shape
 subst hD
 obtain ⟨E, ecap, hE⟩ := h.out.e.shape
 subst hE
 obtain ⟨n, hn⟩ : ∃ n, f.code.length = n := ⟨_, rfl⟩
 have HN := lhid hn
 have hcl2 := hcl.out
 have hf2 := h.out
 rw [hn] at hcl2 hf2 ⊢
 have HFU := lhid hf2
 clear hn hf2 h
 have hmk3 := make_bools n (by omega)
 go_enter Try.func36, Try.ntmps36
 go_upto_region 3 with fail
 generalize hw1 : World.alloc _ _ = w1
 have hF1 : FBox w1 w.heap.size (.slice FA f.regs.length ac) (.slice FB f.params.length bc) f.ret (.slice D n dcap) (.slice E f.rows.length ecap) := by rw [← hw1]; exact (Below.heap_alloc _ _ _ (by simp)).trans (heap_alloc_new w _)
 have HR1 : Hid (∀ F, BooB w1 (w.heap.size + 1) n F 0) := lhid (fun F => by
  have h9 := BooB.made (w.alloc (.cells #[.slice FA f.regs.length ac, .slice FB f.params.length bc, .int .i64 f.ret, .slice D n dcap, .slice E f.rows.length ecap] 27)) n F
  rw [hw1] at h9
  simpa using h9)
 have HB1 : Hid (Below w.heap.size w w1) := lhid (by rw [← hw1]; exact ((Below.refl _ _).alloc (Nat.le_refl _) _).alloc (by simp) _)
 have HU1 := lhid (HFU.out.below HB1.out)
 have HS1 : Hid (w1.heap.size = w.heap.size + 2) := lhid (by rw [← hw1]; simp)
 obtain ⟨p0, p1, p2, p3, p4⟩ := hF1.cells
 clear hw1 hF1
 go_wp2_with fail
 with_reducible refine (webOf_any f _ _ _ _ w1 HU1 (lhid (by have h1 := HN.out; omega))).mono ?_
 rintro e w2 ⟨gn, gs, rfl, hgn, hgs, hln, hsn, hb2⟩
 have HU2 := lhid (HU1.out.below hb2)
 have HL2 := lhid (hln.base (Nat.zero_le _))
 have HN2 := lhid hsn
 have HB2 := lhid hb2
 clear hln hsn hb2 hgn hgs p0 p1 p2 p3 p4
 go_wp2_with fail
 with_reducible refine (spread_one f _ _ _ _ gn gs w2 HU2 hcl hrn hrl HL2 HN2).mono ?_
 rintro e w3 ⟨g, m, rfl, hg, hm, hall, hb3⟩
 rw [HN.out] at hm hall ⊢
 have HM3 := lhid hm
 have HALL := lhid hall
 have HB13 : Hid (Below w1.heap.size w1 w3) := lhid (HB2.out.trans (hb3.mono HB2.out.size))
 have HR3 : Hid (∀ F, BooB w3 (w.heap.size + 1) n F 0) := lhid (fun F => (HR1.out F).of (HB13.out.block _ (by have := HS1.out; omega)))
 have HB3 : Hid (Below w.heap.size w w3) := lhid (HB1.out.trans (HB13.out.mono HB1.out.size))
 have HGN : Hid (w.heap.size + 1 < g ∧ g < w3.heap.size) := lhid ⟨by have h1 := HS1.out; have h2 := HB2.out.size; omega, hm.lt⟩
 clear hm hall hb3 hg HR1 HB1 HU1 HU2 HL2 HN2 HB2 hcl2
 go_wp2_with fail
 go_loopw [16] (fun i wr => ∃ k : Nat, i = .int .i64 k ∧ k ≤ n ∧ Hid (Ch (fun b => b = w.heap.size + 1) w3 wr) ∧ Hid (BooB wr (w.heap.size + 1) n (fun i => decide (m i ≠ 0)) k)) (fun i _ => n - (intOf i).toNat)
 case atStart => exact ⟨0, rfl, Nat.zero_le _, lhid (Ch.refl _ _), lhid (HR3.out _)⟩
 case round =>
  clear HR3
  obtain ⟨k, rfl, hk, HC, HR⟩ := hrel
  by_cases hlt : k < n
  ·have hMk : Msk wr g n m := HM3.out.of (HC.out.block g HGN.out.2 (by have := HGN.out; omega))
   have c0 := hMk.at' hlt
   obtain ⟨x, hx⟩ : ∃ x, m k = x := ⟨_, rfl⟩
   rw [hx] at c0
   obtain ⟨z, hz⟩ : ∃ z, decide (x ≠ 0) = z := ⟨_, rfl⟩
   have hne : ((x.toNat : Int) != 0) = z := by rw [ne_u, hz]
   have HZ : Hid (z = decide (m k ≠ 0)) := lhid (by rw [hx, hz])
   obtain ⟨z1, e1⟩ := HR.out.any hlt
   have z0 := HR.out.fz k
   have gl := HR.out.lt
   have k3 : (k : Int) < n := by omega
   have hwk : wrap64 ((k : Int) + 1) = (k : Int) + 1 := IntWalk.wrap64_in _ (by have h1 := hcl.out; have h2 := HN.out; omega)
   have HRn := lhid (HR.out.put HZ.out)
   have HCn := lhid (HC.out.set (p := ⟨w.heap.size + 1, k, none⟩) (fun _ => rfl) (.bool z))
   clear hMk hx hz
   go_wp2_with fail
   go_roundw
   case rel => exact ⟨k + 1, by first | go_num | rfl, by omega, HCn, HRn⟩
   case measure =>
    rw [hwk]
    exact (Nat.sub_lt_sub_left hlt (Nat.lt_succ_self k) : n - (k + 1) < n - k)
  ·have k3 : ¬ (k : Int) < n := by omega
   have hke : k = n := by omega
   subst hke
   have HFIN : Hid (∃ R : List Bool, RdX (fun b => b = w.heap.size + 1) 1 BlE wr (.slice (some ⟨w.heap.size + 1, 0, none⟩) k k) R ∧ IsReach f R ∧ Below w.heap.size w wr) := lhid (by
    refine ⟨_, HR.out.rd (by have := hcl.out; have := HN.out; omega), ⟨by simp [HN.out], fun i b hb => ?_⟩, HB3.out.trans (HC.out.to (by have := HGN.out; omega) (fun k e => by omega))⟩
    have hi : i < k := by have := (List.getElem?_eq_some_iff.1 hb).1; simpa using this
    have hbe : b = decide (m i ≠ 0) := by
     rw [List.getElem?_map, List.getElem?_range hi] at hb
     injection hb with hb
     exact hb.symm
    rw [hbe]
    exact reach_marks (f := f) (m := m) (by rw [HN.out]; exact HALL.out) (by rw [HN.out]; exact hi))
   go_wp2_with fail
   go_ret
   obtain ⟨R, h1, h2, h3⟩ := HFIN.out
   exact ⟨w.heap.size + 1, rfl, by omega, R, h1, h2, h3⟩
end Go.Proofs.Ytbkeneadoccodaa
