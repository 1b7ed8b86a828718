/- Is a register read where it may not be written yet: the program's readsUnset. -/
import Derived.Test.YtbkeneadoccodaaM16
import Derived.Test.YtbkeneadoccodaaM6
import Derived.Deep.Cut
import Derived.Deep.CutRange
namespace Go.Proofs.Ytbkeneadoccodaa
open Go.RowKit Go
set_option linter.unusedVariables false
set_option linter.unusedSimpArgs false
inductive UnR (f : FuI) (r : Int) : Nat → Prop
 | first : 0 < f.code.length → UnR f r 0
 | next {i j : Nat} {x : InI} : UnR f r i → f.code[i]? = some x → (j : Int) ∈ nextL f i → j < f.code.length → defI x ≠ r → UnR f r j
 | caught {i j : Nat} {x : InI} : UnR f r i → f.code[i]? = some x → throwsB x.op = true → (j : Int) ∈ catL f.rows i → j < f.code.length → UnR f r j
def spN (f : FuI) (F : Int) (i : Nat) : Mk := match f.code[i]? with | some x => bitN (defI x) F | none => 0
theorem comes_unr {f : FuI} {U : Mk} {F b : Nat} (hb : b < 64) (i : Nat) : Comes (webN f) U (spN f F) b i ↔ U.getLsbD b = true ∧ UnR f ((F + b : Nat) : Int) i := by
 constructor
 ·intro h
  induction h with
  | first h0 h1 => exact ⟨h1, .first h0⟩
  | next _ hi hj hjn hs ih =>
   rename_i i j _
   have hi : i < f.code.length := hi
   refine ⟨ih.1, .next ih.2 (List.getElem?_eq_getElem hi) hj hjn (fun e => ?_)⟩
   unfold spN at hs
   rw [List.getElem?_eq_getElem hi] at hs
   simp only [bitN_get, Bool.and_eq_false_iff, decide_eq_false_iff_not] at hs
   omega
  | caught _ hi ht hj hjn ih =>
   rename_i i j _
   have hi : i < f.code.length := hi
   have ht : (match f.code[i]? with | some x => throwsB x.op | none => false) = true := ht
   rw [List.getElem?_eq_getElem hi] at ht
   exact ⟨ih.1, .caught ih.2 (List.getElem?_eq_getElem hi) ht hj hjn⟩
 ·rintro ⟨h0, h⟩
  induction h with
  | first h1 => exact .first h1 h0
  | next _ hx hj hjn hs ih =>
   refine .next ih (List.getElem?_eq_some_iff.1 hx).1 hj hjn ?_
   unfold spN
   rw [hx]
   simp only [bitN_get, Bool.and_eq_false_iff, decide_eq_false_iff_not]
   omega
  | @caught i j x _ hx ht hj hjn ih =>
   refine .caught ih (List.getElem?_eq_some_iff.1 hx).1 ?_ hj hjn
   show (match f.code[i]? with | some x => throwsB x.op | none => false) = true
   rw [hx]
   exact ht
theorem and_u (a b : Mk) : bits .and .u64 (a.toNat : Int) (b.toNat : Int) = ((a &&& b).toNat : Int) := by
 show IntKind.u64.wrap (((BitVec.ofInt 64 (a.toNat : Int) &&& BitVec.ofInt 64 (b.toNat : Int)).toNat : Nat) : Int) = _
 simp only [BitVec.ofInt_natCast, BitVec.ofNat_toNat, BitVec.setWidth_eq]
 exact u64_in _
def RdsOut (f : FuI) (F : Nat) (w : World) (e : Ending) (w' : World) : Prop := ∃ z : Bool, e = .returned (.bool z) ∧ (z = true ↔ ∃ b : Nat, b < 64 ∧ F + b < f.regs.length ∧ ((F + b : Nat) : Int) ∉ f.params ∧ ∃ i x, f.code[i]? = some x ∧ ((F + b : Nat) : Int) ∈ usesI x ∧ UnR f ((F + b : Nat) : Int) i) ∧ Below w.heap.size w w'
def BadI (f : FuI) (m : Nat → Mk) (F : Int) (i : Nat) : Prop := ∃ x, f.code[i]? = some x ∧ ∃ r ∈ usesI x, m i &&& bitN r F ≠ 0
theorem bad_iff {f : FuI} {U : Mk} {F : Nat} {m : Nat → Mk} (hU : ∀ b, U.getLsbD b = true ↔ b < 64 ∧ F + b < f.regs.length ∧ ((F + b : Nat) : Int) ∉ f.params) (hm : ∀ b i, i < f.code.length → ((m i).getLsbD b = true ↔ Comes (webN f) U (spN f F) b i)) :
  (∃ i, BadI f m F i) ↔ ∃ b : Nat, b < 64 ∧ F + b < f.regs.length ∧ ((F + b : Nat) : Int) ∉ f.params ∧ ∃ i x, f.code[i]? = some x ∧ ((F + b : Nat) : Int) ∈ usesI x ∧ UnR f ((F + b : Nat) : Int) i := by
 constructor
 ·rintro ⟨i, x, hx, r, hr, hne⟩
  obtain ⟨b, hb, h1⟩ := bits_ne hne
  rw [BitVec.getLsbD_and, bitN_get] at h1
  simp only [Bool.and_eq_true, decide_eq_true_eq] at h1
  have h2 := (hm b i (List.getElem?_eq_some_iff.1 hx).1).1 h1.1
  have h3 := (comes_unr hb i).1 h2
  have h4 := (hU b).1 h3.1
  have e : r = ((F + b : Nat) : Int) := by omega
  exact ⟨b, hb, h4.2.1, h4.2.2, i, x, hx, e ▸ hr, h3.2⟩
 ·rintro ⟨b, hb, h1, h2, i, x, hx, hr, h3⟩
  refine ⟨i, x, hx, _, hr, fun e => ?_⟩
  have h4 := (hm b i (List.getElem?_eq_some_iff.1 hx).1).2 ((comes_unr hb i).2 ⟨(hU b).2 ⟨hb, h1, h2⟩, h3⟩)
  have h5 : (m i &&& bitN ((F + b : Nat) : Int) F).getLsbD b = true := by
   rw [BitVec.getLsbD_and, h4, bitN_get]
   simp only [Bool.true_and, Bool.and_eq_true, decide_eq_true_eq]
   omega
  rw [e] at h5
  simp at h5
theorem msk_zero {x : Mk} : ((x.toNat : Int) == 0) = decide (x = 0) := by
 rw [Bool.eq_iff_iff]
 simp only [beq_iff_eq, decide_eq_true_eq]
 constructor
 ·intro h
  apply BitVec.eq_of_toNat_eq
  show x.toNat = 0
  omega
 ·rintro rfl
  rfl
theorem spread_n {P : Nat → Prop} (f : FuI) (n : Nat) (hn : f.code.length = n) (fa fb fd fe : Value) (gn gs : Nat) (beg : Mk) (w : World) (h : Hid (FuV P w f fa fb fd fe)) (hcl : Hid ((f.code.length + 1) * 1024 ≤ 140737488355328)) (hrn : Hid (RwN f.rows)) (hrl : Hid (f.rows.length * 8 ≤ 140737488355328)) (hLn : Hid (LstB w gn n 0 (fun i => nextL f i) n)) (hSn : Hid (NumB w gs n (strN f.rows) n)) (WB FI : Nat) (sp : Nat → Mk) (hST : Hid (∀ (i : Nat) (w2 : World), i < n → Below w.heap.size w w2 → Calls Try.prog 68 #[.int .i64 (i : Int), .pointer (some ⟨WB, 0, none⟩), .pointer (some ⟨FI, 0, none⟩)] w2 fun e w3 => e = .returned (.int .u64 ((sp i).toNat : Int)) ∧ Below w2.heap.size w2 w3)) :
  Calls Try.prog 66 #[.agg #[fa, fb, .int .i64 f.ret, fd, fe, .slice (some ⟨gn, 0, none⟩) n n, .slice (some ⟨gs, 0, none⟩) n n], .int .u64 (beg.toNat : Int), (.func (.func 68) #[] #[.pointer (some ⟨WB, 0, none⟩), .pointer (some ⟨FI, 0, none⟩)])] w fun e w' => ∃ (g : Nat) (m : Nat → Mk), e = .returned (.slice (some ⟨g, 0, none⟩) n n) ∧ w.heap.size ≤ g ∧ Msk w' g n m ∧ (∀ b i, i < n → ((m i).getLsbD b = true ↔ Comes (webN f) beg sp b i)) ∧ Below w.heap.size w w' := by
 subst hn
 exact spread_S f fa fb fd fe gn gs beg w h hcl hrn hrl hLn hSn WB FI sp hST
set_option maxHeartbeats 32000000 in
set_option maxRecDepth 100000 in
theorem reads_c {P : Nat → Prop} (f : FuI) (fa fb fd fe : Value) (gn gs F : Nat) (w : World) (h : Hid (FuV P w f fa fb fd fe)) (hcl : Hid ((f.code.length + 1) * 1024 ≤ 140737488355328)) (hrn : Hid (RwN f.rows)) (hrl : Hid (f.rows.length * 8 ≤ 140737488355328)) (hLn : Hid (LstB w gn f.code.length 0 (fun i => nextL f i) f.code.length)) (hSn : Hid (NumB w gs f.code.length (strN f.rows) f.code.length))
    (hF : Hid (F < f.regs.length)) (hl : Hid (f.regs.length ≤ 1099511627776)) (hp : Hid (∀ r ∈ f.params, I64 r)) (hI : Hid (∀ x ∈ f.code, I64 (defI x) ∧ (∀ u ∈ usesI x, I64 u) ∧ x.args.length * 8 ≤ 140737488355328 ∧ (usesI x).length * 8 ≤ 140737488355328)) :
    Calls Try.prog 33 #[.agg #[fa, fb, .int .i64 f.ret, fd, fe, .slice (some ⟨gn, 0, none⟩) f.code.length f.code.length, .slice (some ⟨gs, 0, none⟩) f.code.length f.code.length], .int .i64 (F : Int)] w fun e w' => RdsOut f F w e w' := by
  obtain ⟨FA, ac, hFA⟩ := h.out.a.shape
  subst hFA
  obtain ⟨FB, bc, hFB⟩ := h.out.b.shape
  subst hFB
  obtain ⟨D, dcap, hD⟩ := h.out.d.shape
  subst hD
  obtain ⟨E, ecap, hE⟩ := h.out.e.shape
  subst hE
  obtain ⟨n, hn⟩ : ∃ n, f.code.length = n := ⟨_, rfl⟩
  have HN := lhid hn
  have hl2 := hLn.out
  have hs2 := hSn.out
  have hf2 := h.out
  rw [hn] at hl2 hs2 hf2 ⊢
  have HL := lhid hl2
  have HS := lhid hs2
  have HFU := lhid hf2
  clear hn hl2 hs2 hf2 h hLn hSn
  go_enter Try.func33, Try.ntmps33
  go_upto_region 1 with fail
  generalize hW : World.alloc _ _ = w1
  obtain ⟨WB, hWB⟩ : ∃ WB, WB = w.heap.size := ⟨_, rfl⟩
  have hb1 : Below w.heap.size w w1 := by rw [← hW]; exact ((Below.refl _ _).alloc (Nat.le_refl _) _).alloc (by simp) _
  have hw1 : WBox w1 WB (.slice FA f.regs.length ac) (.slice FB f.params.length bc) f.ret (.slice D n dcap) (.slice E f.rows.length ecap) (.slice (some ⟨gn, 0, none⟩) n n) (.slice (some ⟨gs, 0, none⟩) n n) := by rw [← hW, hWB]; exact (Below.heap_alloc _ _ _ (by simp)).trans (heap_alloc_new w _)
  have hf1 : w1.heap[WB + 1]? = some (.cells #[.int .i64 (F : Int)] 3 (0, 0)) := by rw [← hW, hWB]; exact heap_new2 w _ _
  rw [← hWB]
  have HW1 := lhid hw1
  have HF1 := lhid hf1
  have HB1 := lhid hb1
  have HWB := lhid hWB
  have HU1 := lhid (HFU.out.below hb1)
  clear hW hb1 hw1 hf1 hWB
  have HG : Hid (∀ w' : World, Below w1.heap.size w1 w' → (w'.cell? ⟨WB, 0, none⟩ = some (.slice FA f.regs.length ac) ∧ w'.cell? ⟨WB, 1, none⟩ = some (.slice FB f.params.length bc) ∧ w'.cell? ⟨WB, 2, none⟩ = some (.int .i64 f.ret) ∧ w'.cell? ⟨WB, 3, none⟩ = some (.slice D n dcap) ∧ w'.cell? ⟨WB, 4, none⟩ = some (.slice E f.rows.length ecap) ∧ w'.cell? ⟨WB, 5, none⟩ = some (.slice (some ⟨gn, 0, none⟩) n n) ∧ w'.cell? ⟨WB, 6, none⟩ = some (.slice (some ⟨gs, 0, none⟩) n n)) ∧ w'.cell? ⟨WB + 1, 0, none⟩ = some (.int .i64 (F : Int))) := lhid (fun w' hw' => by
    have k1 : WBox w' WB (.slice FA f.regs.length ac) (.slice FB f.params.length bc) f.ret (.slice D n dcap) (.slice E f.rows.length ecap) (.slice (some ⟨gn, 0, none⟩) n n) (.slice (some ⟨gs, 0, none⟩) n n) := heap_keep HW1.out hw'
    exact ⟨k1.cells, heap_cell (heap_keep HF1.out hw') rfl⟩)
  have HSTP : Hid (∀ (wa : World), Below w1.heap.size w1 wa → Hid (∀ (i : Nat) (w2 : World), i < n → Below wa.heap.size wa w2 → Calls Try.prog 68 #[.int .i64 (i : Int), .pointer (some ⟨WB, 0, none⟩), .pointer (some ⟨WB + 1, 0, none⟩)] w2 fun e w3 => e = .returned (.int .u64 ((spN f F i).toNat : Int)) ∧ Below w2.heap.size w2 w3)) := lhid (fun wa hS1 => lhid (fun i w2 hi hb2 => by
    have hil : i < f.code.length := by have := HN.out; omega
    have hx := List.getElem?_eq_getElem hil
    have hq := hI.out _ (List.mem_of_getElem? hx)
    have hsp : spN f F i = bitN (defI f.code[i]) F := by unfold spN; rw [hx]
    rw [hsp]
    have hbb := hS1.trans (hb2.mono hS1.size)
    exact stop_c f.code n HN _ _ _ _ _ D dcap f.ret WB (WB + 1) F i _ w2 (lhid (heap_keep HW1.out hbb)) (lhid (heap_keep HF1.out hbb)) (lhid (HU1.out.below hbb).d) (lhid hx) (lhid hq.1) (lhid (by have := hF.out; have := hl.out; omega))))
  refine wp_region_held_drew (S := fun w' => Below w1.heap.size w1 w') (by kernel_rfl) (Below.drew' (Below.refl _ _)) ?_
  intro hS0
  refine wpAnyH_take (i := 0) (v := ?tv1) rfl (by kernel_rfl) (by kernel_rfl) (by kernel_rfl) (fun _ _ _ h => h) (Or.inl ⟨by rfl, ?ty1⟩) hS0 ?tr1
  case ty1 => (intro w' hw'; obtain ⟨⟨p0, p1, p2, p3, p4, p5, p6⟩, p7⟩ := HG.out w' hw'; go_simp; try with_reducible rfl)
  try simp only [List.getElem_toArray, List.getElem_cons_zero, List.getElem_cons_succ]
  try simp only [Act.put, List.setIfInBounds_toArray, List.set_cons_zero, List.set_cons_succ]
  refine wpAnyH_take (i := 1) (v := ?tv2) rfl (by kernel_rfl) (by kernel_rfl) (by kernel_rfl) (fun _ _ _ h => h) (Or.inl ⟨by rfl, ?ty2⟩) hS0 ?tr2
  case ty2 => (intro w' hw'; obtain ⟨⟨p0, p1, p2, p3, p4, p5, p6⟩, p7⟩ := HG.out w' hw'; go_simp; try with_reducible rfl)
  try simp only [List.getElem_toArray, List.getElem_cons_zero, List.getElem_cons_succ]
  try simp only [Act.put, List.setIfInBounds_toArray, List.set_cons_zero, List.set_cons_succ]
  refine wpAnyH_take (i := 2) (v := ?tv3) rfl (by kernel_rfl) (by kernel_rfl) (by kernel_rfl) (fun _ _ _ h => h) (Or.inl ⟨by rfl, ?ty3⟩) hS0 ?tr3
  case ty3 => (intro w' hw'; obtain ⟨⟨p0, p1, p2, p3, p4, p5, p6⟩, p7⟩ := HG.out w' hw'; go_simp; try with_reducible rfl)
  try simp only [List.getElem_toArray, List.getElem_cons_zero, List.getElem_cons_succ]
  try simp only [Act.put, List.setIfInBounds_toArray, List.set_cons_zero, List.set_cons_succ]
  refine wpAnyH_take (i := 3) (v := ?tv4) rfl (by kernel_rfl) (by kernel_rfl) (by kernel_rfl) (fun _ _ _ h => h) (Or.inl ⟨by rfl, ?ty4⟩) hS0 ?tr4
  case ty4 => (intro w' hw'; obtain ⟨⟨p0, p1, p2, p3, p4, p5, p6⟩, p7⟩ := HG.out w' hw'; go_simp; try with_reducible rfl)
  try simp only [List.getElem_toArray, List.getElem_cons_zero, List.getElem_cons_succ]
  try simp only [Act.put, List.setIfInBounds_toArray, List.set_cons_zero, List.set_cons_succ]
  refine wpAnyH_take (i := 5) (v := ?tv5) rfl (by kernel_rfl) (by kernel_rfl) (by kernel_rfl) (fun _ _ _ h => h) (Or.inl ⟨by rfl, ?ty5⟩) hS0 ?tr5
  case ty5 => (intro w' hw'; obtain ⟨⟨p0, p1, p2, p3, p4, p5, p6⟩, p7⟩ := HG.out w' hw'; go_simp; try with_reducible rfl)
  try simp only [List.getElem_toArray, List.getElem_cons_zero, List.getElem_cons_succ]
  try simp only [Act.put, List.setIfInBounds_toArray, List.set_cons_zero, List.set_cons_succ]
  refine wpAnyH_ready (rs := [4]) (by kernel_rfl) (by simp) ?_
  refine AllReadyH.cons rfl (fun K hK => ?_) AllReadyH.nil
  go_simp
  refine (unset_c f _ _ _ _ F _ (lhid (by have := HU1.out.below hS0; exact this)) hF hl hp).mono ?_
  rintro e wahS1 ⟨U, rfl, hU, hb⟩
  have hS1 : Below w1.heap.size w1 wahS1 := hS0.trans (hb.mono hS0.size)
  have HUU := lhid hU
  clear hU
  clear hb
  dsimp only
  refine hK.out _ _ hS1 (fun _ => ?_)
  clear hK K
  try simp only [Act.put, List.setIfInBounds_toArray, List.set_cons_zero, List.set_cons_succ]
  refine wpAnyH_ready (rs := [6]) (by kernel_rfl) (by simp) ?_
  refine AllReadyH.cons rfl (fun K hK => ?_) AllReadyH.nil
  go_simp
  refine (spread_n f n HN.out _ _ _ _ gn gs U _ (lhid (HU1.out.below hS1)) hcl hrn hrl (lhid (HL.out.below (HB1.out.trans (hS1.mono HB1.out.size)))) (lhid (HS.out.of ((HB1.out.trans (hS1.mono HB1.out.size)).block gs HS.out.lt))) WB (WB + 1) (spN f F) (HSTP.out _ hS1)).mono ?_
  rintro e wahS2 ⟨gm, m, rfl, hgm, hmk, hcm, hb⟩
  have hS2 : Below w1.heap.size w1 wahS2 := hS1.trans (hb.mono hS1.size)
  have HMK := lhid hmk
  have HCM := lhid hcm
  clear hmk hcm hgm
  clear hb
  dsimp only
  refine hK.out _ _ hS2 (fun _ => ?_)
  clear hK K
  try simp only [Act.put, List.setIfInBounds_toArray, List.set_cons_zero, List.set_cons_succ]
  refine wpAnyH_take (i := 7) (v := ?tv6) rfl (by kernel_rfl) (by kernel_rfl) (by kernel_rfl) (fun _ _ _ h => h) (Or.inl ⟨by rfl, ?ty6⟩) hS2 ?tr6
  case ty6 => (intro w' hw'; go_simp; try with_reducible rfl)
  try simp only [List.getElem_toArray, List.getElem_cons_zero, List.getElem_cons_succ]
  try simp only [Act.put, List.setIfInBounds_toArray, List.set_cons_zero, List.set_cons_succ]
  refine wpAnyH_done (by kernel_rfl) ?_ _
  obtain ⟨w2, hw2⟩ : ∃ x, x = wahS2 := ⟨_, rfl⟩
  subst hw2
  have HBw : Hid (Below w.heap.size w w2) := lhid (HB1.out.trans (hS2.mono HB1.out.size))
  have HS2 := lhid hS2
  obtain ⟨⟨p0, p1, p2, p3, p4, p5, p6⟩, p7⟩ := HG.out w2 hS2
  have HZ : Hid ((∃ i, BadI f m F i) ↔ ∃ b : Nat, b < 64 ∧ F + b < f.regs.length ∧ ((F + b : Nat) : Int) ∉ f.params ∧ ∃ i x, f.code[i]? = some x ∧ ((F + b : Nat) : Int) ∈ usesI x ∧ UnR f ((F + b : Nat) : Int) i) := lhid (bad_iff HUU.out (by have := HCM.out; rw [← HN.out] at this; exact this))
  clear hS0 hS1 hS2 HUU HCM HSTP HL HS
  go_wp2_with fail
  go_loopg [21] n (fun g s wr => ∃ k : Nat, g = n - k ∧ s = .int .i64 k ∧ k ≤ n ∧ Hid (∀ i, i < k → ¬ BadI f m F i) ∧ Hid (Below w2.heap.size w2 wr))
  case atStart => exact ⟨0, rfl, rfl, Nat.zero_le _, lhid (fun i hi => by omega), lhid (Below.refl _ _)⟩
  case round =>
    obtain ⟨k, rfl, rfl, hk, HNB, HBr⟩ := hrel
    clear p0 p1 p2 p3 p4 p5 p6 p7
    by_cases hlt : k < n
    · have k3 : (k : Int) < n := by omega
      have hwk : wrap64 ((k : Int) + 1) = ((k + 1 : Nat) : Int) := by rw [IntWalk.wrap64_in _ (by have := hcl.out; have := HN.out; omega)]; omega
      obtain ⟨x, hx⟩ : ∃ x, f.code[k]? = some x := ⟨_, List.getElem?_eq_getElem (by have := HN.out; omega)⟩
      obtain ⟨gc, o, v, hD, _, hva, c0, c1, c2, c3, c4, c5, c6, c7, c8⟩ := in_cells HFU.out.d hx
      subst hD
      obtain ⟨VA, vc, hv0⟩ := hva.shape
      subst hv0
      have hBq : Below w.heap.size w wr := HBw.out.trans (HBr.out.mono HBw.out.size)
      have kc : ∀ {p : Addr} {u : Value}, w.cell? p = some u → wr.cell? p = some u := fun {p u} hq => (hBq.cell (p := p) (cell_lt hq)).trans hq
      replace c0 := kc c0
      replace c1 := kc c1
      replace c2 := kc c2
      replace c3 := kc c3
      replace c4 := kc c4
      replace c5 := kc c5
      replace c6 := kc c6
      replace c7 := kc c7
      replace c8 := kc c8
      have hmk := HMK.out.below HBr.out
      have d0 := hmk.at' hlt
      have hgm : gm < wr.heap.size := hmk.lt
      have hgw : gc < wr.heap.size := cell_lt c0
      have HX := lhid hx
      have hq := hI.out x (List.mem_of_getElem? hx)
      have HQ := lhid hq
      have HVA := lhid (hva.below (keptX_nu _) hBq)
      obtain ⟨mk, hmke⟩ : ∃ mk, m k = mk := ⟨_, rfl⟩
      rw [hmke] at d0
      have hz0 := msk_zero (x := mk)
      have HMKE := lhid hmke
      have hb6 : Below wr.heap.size wr (wr.alloc (.cells #[.int .i64 x.op, .int .i64 x.dst, .int .i64 x.a, .int .i64 x.b, .int .i64 x.c, .int .i64 x.num, .int .i64 x.too, .string (tx x.ref), .slice VA x.args.length vc] 29)) := (Below.refl _ _).alloc (Nat.le_refl _) _
      have HB6 := lhid (HBr.out.trans (hb6.mono HBr.out.size))
      have HBq := lhid hBq
      clear hx hva kc hq hmke hBq hmk hb6
      by_cases hmz : mk = 0
      · have hz1 : decide (mk = 0) = true := by simpa using hmz
        rw [hz1] at hz0
        have HNB2 : Hid (∀ i, i < k + 1 → ¬ BadI f m F i) := lhid (fun i hi hb => by
          by_cases e : i = k
          · subst e
            obtain ⟨x, _, r, _, hne⟩ := hb
            rw [HMKE.out, hmz] at hne
            simp at hne
          · exact HNB.out i (by omega) hb)
        have HMZ := lhid hmz
        clear hmz hz1
        go_wp2_with fail
        go_roundg (n - (k + 1))
        case measure => omega
        case rel => exact ⟨k + 1, rfl, by first | rfl | rw [hwk], by omega, HNB2, HB6⟩
      · have hz1 : decide (mk = 0) = false := by simpa using hmz
        rw [hz1] at hz0
        have HMZ := lhid hmz
        clear hmz hz1
        go_upto_region 6 with fail
        generalize hW : World.alloc _ _ = w6
        have hb6 : Below wr.heap.size wr w6 := by rw [← hW]; exact (Below.refl _ _).alloc (Nat.le_refl _) _
        have XB6 : Hid (XBox w6 wr.heap.size x.op x.dst x.a x.b x.c x.num x.too x.ref (.slice VA x.args.length vc)) := lhid (by rw [← hW]; exact heap_alloc_new wr _)
        have HB7 := lhid (HBr.out.trans (hb6.mono HBr.out.size))
        have HVA6 := lhid (HVA.out.below (keptX_nu _) hb6)
        obtain ⟨x0, x1, x2, x3, x4, x5, x6, x7, x8⟩ := XB6.out.cells
        obtain ⟨us, hus⟩ : ∃ us, usesI x = us := ⟨_, rfl⟩
        have HUS := lhid hus
        clear hW hb6 HB6 hus c0 c1 c2 c3 c4 c5 c6 c7 c8 d0
        go_wp2_with fail
        with_reducible refine (uses_w x (.slice VA x.args.length vc) us _ HVA6 (lhid HQ.out.2.2.1) HUS).mono ?_
        rintro e w8 ⟨vu, rfl, ho, hb8⟩
        obtain ⟨UA, uc, hvu⟩ := own_shape ho
        subst hvu
        have HO := lhid ho
        have HB8 := lhid (HB7.out.trans (hb8.mono HB7.out.size))
        have HUSL : Hid (us.length * 8 ≤ 140737488355328) := lhid (by rw [← HUS.out]; exact HQ.out.2.2.2)
        clear ho hb8 x0 x1 x2 x3 x4 x5 x6 x7 x8 HB7
        go_wp2_with fail
        go_loopg [34] us.length (fun g s wq => ∃ q : Nat, g = us.length - q ∧ s = .int .i64 q ∧ q ≤ us.length ∧ Hid (∀ r ∈ us.take q, mk &&& bitN r F = 0) ∧ Hid (Below w8.heap.size w8 wq))
        case atStart => exact ⟨0, rfl, rfl, Nat.zero_le _, lhid (fun r hr => by simp at hr), lhid (Below.refl _ _)⟩
        case round =>
          obtain ⟨w9, hw9⟩ : ∃ x, x = wr := ⟨_, rfl⟩
          subst hw9
          obtain ⟨q, rfl, rfl, hq, HQZ, HBQ⟩ := hrel
          by_cases hlq : q < us.length
          · have k4 : (q : Int) < us.length := by omega
            have hwq : wrap64 ((q : Int) + 1) = ((q + 1 : Nat) : Int) := by rw [IntWalk.wrap64_in _ (by have := HUSL.out; omega)]; omega
            obtain ⟨r, hr⟩ : ∃ r, us[q]? = some r := ⟨_, List.getElem?_eq_getElem hlq⟩
            obtain ⟨ug, hug⟩ : ∃ ug, UA = some ⟨ug, 0, none⟩ := by
              rcases HO.out.2 with ⟨_, h2⟩ | ⟨g, cap, cur, h1, _⟩
              · omega
              · injection h1 with h1
                exact ⟨g, h1⟩
            subst hug
            have e0 : w8.cell? ⟨ug, q, none⟩ = some (.int .i64 r) := by
              rw [HO.out.cellAt q (by simp; omega), List.getElem?_map, hr]
              rfl
            replace e0 := (HBQ.out.cell (p := ⟨ug, q, none⟩) (cell_lt e0)).trans e0
            have hBz : Below w2.heap.size w2 w9 := HB8.out.trans (HBQ.out.mono HB8.out.size)
            have HBz := lhid hBz
            have HR := lhid hr
            have HRI : Hid (I64 r) := lhid (HQ.out.2.1 r (by rw [HUS.out]; exact List.mem_of_getElem? hr))
            have hand := and_u mk (bitN r F)
            obtain ⟨y, hy⟩ : ∃ y, mk &&& bitN r F = y := ⟨_, rfl⟩
            have HY := lhid hy
            rw [hy] at hand
            have hne := ne_u y
            have HGQ : Hid (∀ w' : World, Below w9.heap.size w9 w' → w'.cell? ⟨gm, k, none⟩ = some (.int .u64 (mk.toNat : Int)) ∧ w'.cell? ⟨WB + 1, 0, none⟩ = some (.int .i64 (F : Int))) := lhid (fun w' hw' => by
              have h1 := hBz.trans (hw'.mono hBz.size)
              have h2 := (HMK.out.below h1).at' hlt
              rw [HMKE.out] at h2
              exact ⟨h2, (HG.out w' (HS2.out.trans (h1.mono HS2.out.size))).2⟩)
            clear hr hy hBz
            by_cases hyz : y = 0
            · have hd : decide (y ≠ 0) = false := by simpa using hyz
              rw [hd] at hne
              have HQ2 : Hid (∀ r ∈ us.take (q + 1), mk &&& bitN r F = 0) := lhid (fun z hz => by
                rw [take_snoc HR.out] at hz
                rcases List.mem_append.1 hz with hz | hz
                · exact HQZ.out z hz
                · rw [List.mem_singleton] at hz
                  rw [hz, HY.out, hyz])
              have HYZ := lhid hyz
              clear hyz hd
              go_upto_region 9 with fail
              refine wp_region_held_drew (S := fun w' => Below w9.heap.size w9 w') (by kernel_rfl) (Below.drew' (Below.refl _ _)) ?_
              intro hS0
              refine wpAnyH_take (i := 0) (v := ?tv7) rfl (by kernel_rfl) (by kernel_rfl) (by kernel_rfl) (fun _ _ _ h => h) (Or.inl ⟨by rfl, ?ty7⟩) hS0 ?tr7
              case ty7 => (intro w' hw'; obtain ⟨z0, z1⟩ := HGQ.out w' hw'; go_simp; try with_reducible rfl)
              try simp only [List.getElem_toArray, List.getElem_cons_zero, List.getElem_cons_succ]
              try simp only [Act.put, List.setIfInBounds_toArray, List.set_cons_zero, List.set_cons_succ]
              refine wpAnyH_take (i := 1) (v := ?tv8) rfl (by kernel_rfl) (by kernel_rfl) (by kernel_rfl) (fun _ _ _ h => h) (Or.inl ⟨by rfl, ?ty8⟩) hS0 ?tr8
              case ty8 => (intro w' hw'; obtain ⟨z0, z1⟩ := HGQ.out w' hw'; go_simp; try with_reducible rfl)
              try simp only [List.getElem_toArray, List.getElem_cons_zero, List.getElem_cons_succ]
              try simp only [Act.put, List.setIfInBounds_toArray, List.set_cons_zero, List.set_cons_succ]
              refine wpAnyH_take (i := 2) (v := ?tv9) rfl (by kernel_rfl) (by kernel_rfl) (by kernel_rfl) (fun _ _ _ h => h) (Or.inl ⟨by rfl, ?ty9⟩) hS0 ?tr9
              case ty9 => (intro w' hw'; obtain ⟨z0, z1⟩ := HGQ.out w' hw'; go_simp; try with_reducible rfl)
              try simp only [List.getElem_toArray, List.getElem_cons_zero, List.getElem_cons_succ]
              try simp only [Act.put, List.setIfInBounds_toArray, List.set_cons_zero, List.set_cons_succ]
              refine wpAnyH_take (i := 3) (v := ?tv10) rfl (by kernel_rfl) (by kernel_rfl) (by kernel_rfl) (fun _ _ _ h => h) (Or.inl ⟨by rfl, ?ty10⟩) hS0 ?tr10
              case ty10 => (intro w' hw'; obtain ⟨z0, z1⟩ := HGQ.out w' hw'; go_simp; try with_reducible rfl)
              try simp only [List.getElem_toArray, List.getElem_cons_zero, List.getElem_cons_succ]
              try simp only [Act.put, List.setIfInBounds_toArray, List.set_cons_zero, List.set_cons_succ]
              refine wpAnyH_take (i := 4) (v := ?tv11) rfl (by kernel_rfl) (by kernel_rfl) (by kernel_rfl) (fun _ _ _ h => h) (Or.inl ⟨by rfl, ?ty11⟩) hS0 ?tr11
              case ty11 => (intro w' hw'; obtain ⟨z0, z1⟩ := HGQ.out w' hw'; go_simp; try with_reducible rfl)
              try simp only [List.getElem_toArray, List.getElem_cons_zero, List.getElem_cons_succ]
              try simp only [Act.put, List.setIfInBounds_toArray, List.set_cons_zero, List.set_cons_succ]
              refine wpAnyH_take (i := 5) (v := ?tv12) rfl (by kernel_rfl) (by kernel_rfl) (by kernel_rfl) (fun _ _ _ h => h) (Or.inl ⟨by rfl, ?ty12⟩) hS0 ?tr12
              case ty12 => (intro w' hw'; obtain ⟨z0, z1⟩ := HGQ.out w' hw'; go_simp; try with_reducible rfl)
              try simp only [List.getElem_toArray, List.getElem_cons_zero, List.getElem_cons_succ]
              try simp only [Act.put, List.setIfInBounds_toArray, List.set_cons_zero, List.set_cons_succ]
              refine wpAnyH_ready (rs := [6]) (by kernel_rfl) (by simp) ?_
              refine AllReadyH.cons rfl (fun K hK => ?_) AllReadyH.nil
              go_simp
              refine (bit_c r F _ HRI (lhid (by have := hF.out; have := hl.out; omega))).mono ?_
              rintro e _ ⟨rfl, rfl⟩
              dsimp only
              refine hK.out _ _ hS0 (fun _ => ?_)
              clear hK K
              try simp only [Act.put, List.setIfInBounds_toArray, List.set_cons_zero, List.set_cons_succ]
              refine wpAnyH_quiet_tail 7 (by rfl) (by kernel_rfl) (by kernel_rfl) hS0 ?_
              simp only [List.drop_succ_cons, List.drop_zero]
              repeat (first
                | go_big_quiet_skip
                | (go_big_quiet_want
                   refine quiet_of_run (v := ?_) (fun w' hw' => ?_) ?_
                   rotate_left
                   · (go_simp; try with_reducible rfl)
                   go_big_quiet_on
                   try simp only [Act.put, List.setIfInBounds_toArray, List.set_cons_zero, List.set_cons_succ]))
              refine wpQuiet_nil ?_
              intro wx hwx
              have HWX := lhid hwx
              clear hwx
              go_wp2_with fail
              go_roundg (us.length - (q + 1))
              case measure => omega
              case rel => exact ⟨q + 1, rfl, by first | rfl | rw [hwq], by omega, HQ2, lhid (HBQ.out.trans (HWX.out.mono HBQ.out.size))⟩
            · have hd : decide (y ≠ 0) = true := by simpa using hyz
              rw [hd] at hne
              have HBAD : Hid (∃ i, BadI f m F i) := lhid ⟨k, x, HX.out, r, by rw [HUS.out]; exact List.mem_of_getElem? HR.out, by rw [HMKE.out, HY.out]; exact hyz⟩
              clear hyz hd
              go_upto_region 9 with fail
              refine wp_region_held_drew (S := fun w' => Below w9.heap.size w9 w') (by kernel_rfl) (Below.drew' (Below.refl _ _)) ?_
              intro hS0
              refine wpAnyH_take (i := 0) (v := ?tv13) rfl (by kernel_rfl) (by kernel_rfl) (by kernel_rfl) (fun _ _ _ h => h) (Or.inl ⟨by rfl, ?ty13⟩) hS0 ?tr13
              case ty13 => (intro w' hw'; obtain ⟨z0, z1⟩ := HGQ.out w' hw'; go_simp; try with_reducible rfl)
              try simp only [List.getElem_toArray, List.getElem_cons_zero, List.getElem_cons_succ]
              try simp only [Act.put, List.setIfInBounds_toArray, List.set_cons_zero, List.set_cons_succ]
              refine wpAnyH_take (i := 1) (v := ?tv14) rfl (by kernel_rfl) (by kernel_rfl) (by kernel_rfl) (fun _ _ _ h => h) (Or.inl ⟨by rfl, ?ty14⟩) hS0 ?tr14
              case ty14 => (intro w' hw'; obtain ⟨z0, z1⟩ := HGQ.out w' hw'; go_simp; try with_reducible rfl)
              try simp only [List.getElem_toArray, List.getElem_cons_zero, List.getElem_cons_succ]
              try simp only [Act.put, List.setIfInBounds_toArray, List.set_cons_zero, List.set_cons_succ]
              refine wpAnyH_take (i := 2) (v := ?tv15) rfl (by kernel_rfl) (by kernel_rfl) (by kernel_rfl) (fun _ _ _ h => h) (Or.inl ⟨by rfl, ?ty15⟩) hS0 ?tr15
              case ty15 => (intro w' hw'; obtain ⟨z0, z1⟩ := HGQ.out w' hw'; go_simp; try with_reducible rfl)
              try simp only [List.getElem_toArray, List.getElem_cons_zero, List.getElem_cons_succ]
              try simp only [Act.put, List.setIfInBounds_toArray, List.set_cons_zero, List.set_cons_succ]
              refine wpAnyH_take (i := 3) (v := ?tv16) rfl (by kernel_rfl) (by kernel_rfl) (by kernel_rfl) (fun _ _ _ h => h) (Or.inl ⟨by rfl, ?ty16⟩) hS0 ?tr16
              case ty16 => (intro w' hw'; obtain ⟨z0, z1⟩ := HGQ.out w' hw'; go_simp; try with_reducible rfl)
              try simp only [List.getElem_toArray, List.getElem_cons_zero, List.getElem_cons_succ]
              try simp only [Act.put, List.setIfInBounds_toArray, List.set_cons_zero, List.set_cons_succ]
              refine wpAnyH_take (i := 4) (v := ?tv17) rfl (by kernel_rfl) (by kernel_rfl) (by kernel_rfl) (fun _ _ _ h => h) (Or.inl ⟨by rfl, ?ty17⟩) hS0 ?tr17
              case ty17 => (intro w' hw'; obtain ⟨z0, z1⟩ := HGQ.out w' hw'; go_simp; try with_reducible rfl)
              try simp only [List.getElem_toArray, List.getElem_cons_zero, List.getElem_cons_succ]
              try simp only [Act.put, List.setIfInBounds_toArray, List.set_cons_zero, List.set_cons_succ]
              refine wpAnyH_take (i := 5) (v := ?tv18) rfl (by kernel_rfl) (by kernel_rfl) (by kernel_rfl) (fun _ _ _ h => h) (Or.inl ⟨by rfl, ?ty18⟩) hS0 ?tr18
              case ty18 => (intro w' hw'; obtain ⟨z0, z1⟩ := HGQ.out w' hw'; go_simp; try with_reducible rfl)
              try simp only [List.getElem_toArray, List.getElem_cons_zero, List.getElem_cons_succ]
              try simp only [Act.put, List.setIfInBounds_toArray, List.set_cons_zero, List.set_cons_succ]
              refine wpAnyH_ready (rs := [6]) (by kernel_rfl) (by simp) ?_
              refine AllReadyH.cons rfl (fun K hK => ?_) AllReadyH.nil
              go_simp
              refine (bit_c r F _ HRI (lhid (by have := hF.out; have := hl.out; omega))).mono ?_
              rintro e _ ⟨rfl, rfl⟩
              dsimp only
              refine hK.out _ _ hS0 (fun _ => ?_)
              clear hK K
              try simp only [Act.put, List.setIfInBounds_toArray, List.set_cons_zero, List.set_cons_succ]
              refine wpAnyH_quiet_tail 7 (by rfl) (by kernel_rfl) (by kernel_rfl) hS0 ?_
              simp only [List.drop_succ_cons, List.drop_zero]
              repeat (first
                | go_big_quiet_skip
                | (go_big_quiet_want
                   refine quiet_of_run (v := ?_) (fun w' hw' => ?_) ?_
                   rotate_left
                   · (go_simp; try with_reducible rfl)
                   go_big_quiet_on
                   try simp only [Act.put, List.setIfInBounds_toArray, List.set_cons_zero, List.set_cons_succ]))
              refine wpQuiet_nil ?_
              intro wx hwx
              have HWX := lhid hwx
              clear hwx
              go_wp2_with fail
              go_ret
              refine ⟨true, rfl, ?_, HBw.out.trans ((HBz.out.trans (HWX.out.mono HBz.out.size)).mono HBw.out.size)⟩
              simp only [true_iff]
              exact HZ.out.1 HBAD.out
          · have k4 : ¬ (q : Int) < us.length := by omega
            have hke : q = us.length := by omega
            subst hke
            have HNB2 : Hid (∀ i, i < k + 1 → ¬ BadI f m F i) := lhid (fun i hi hb => by
              by_cases e : i = k
              · subst e
                obtain ⟨x', hx', r, hr, hne⟩ := hb
                rw [HX.out] at hx'
                injection hx' with hx'
                subst hx'
                rw [HUS.out] at hr
                rw [HMKE.out] at hne
                exact hne (HQZ.out r (by rw [List.take_length]; exact hr))
              · exact HNB.out i (by omega) hb)
            have HBz := lhid (HB8.out.trans (HBQ.out.mono HB8.out.size))
            clear hlq
            go_wp2_with fail
            go_roundg (n - (k + 1))
            case measure => omega
            case rel => exact ⟨k + 1, rfl, by first | rfl | rw [hwk], by omega, HNB2, HBz⟩
    · have k3 : ¬ (k : Int) < n := by omega
      have hke : k = n := by omega
      go_wp2_with fail
      go_ret
      refine ⟨false, rfl, ?_, HBw.out.trans (HBr.out.mono HBw.out.size)⟩
      simp only [Bool.false_eq_true, false_iff]
      intro hb
      obtain ⟨i, hi⟩ := HZ.out.2 hb
      have hin : i < k := by obtain ⟨x, hx, _⟩ := hi; have := (List.getElem?_eq_some_iff.1 hx).1; have := HN.out; omega
      exact HNB.out i hin hi
end Go.Proofs.Ytbkeneadoccodaa
