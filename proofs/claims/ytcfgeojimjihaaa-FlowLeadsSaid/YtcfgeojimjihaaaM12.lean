/- Texts of this claim, joined: FlwRAll, FlwRRch, FlwRHead. -/
import Derived.Test.YtcfgeojimjihaaaJFlwBlocks
import Derived.Test.YtcfgeojimjihaaaM8
/- All that follow a place: the document's All. -/
namespace Go.Proofs.Ytcfgeojimjihaaa
open Go.RowKit Go
set_option linter.unusedVariables false
set_option linter.unusedSimpArgs false

def nxA (f : FuI) (i : Int) : List Int := nextL f i ++ caughtL f i
theorem caught_len (f : FuI) (i : Int) : (caughtL f i).length ≤ f.rows.length := by
  have h1 : (caughtL f i).length ≤ (catL f.rows i).length := by
    unfold caughtL
    split
    · simp
    · split
      · exact uniq_len _
      · simp
  exact Nat.le_trans h1 (catL_len _ _)
set_option maxHeartbeats 8000000 in
set_option maxRecDepth 100000 in
theorem rall_any {P : Nat → Prop} (f : FuI) (fa fb fd fe : Value) (i : Int) (w : World) (h : Hid (FuV P w f fa fb fd fe)) (hrl : Hid ((f.rows.length + 2) * 8 ≤ 140737488355328)) :
    Calls Try.prog 36 #[fuL fa fb f.ret fd fe, .int .i64 i] w fun e w' => ∃ v, e = .returned v ∧ OwN w' w.heap.size v (nxA f i) ∧ Below w.heap.size w w' := by
  obtain ⟨FA, ac, hFA⟩ := h.out.a.shape
  subst hFA
  obtain ⟨FB, bc, hFB⟩ := h.out.b.shape
  subst hFB
  obtain ⟨D, dcap, hD⟩ := h.out.d.shape
  subst hD
  obtain ⟨E, ecap, hE⟩ := h.out.e.shape
  subst hE
  obtain ⟨n, hn⟩ : ∃ n, f.code.length = n := ⟨_, rfl⟩
  have hf2 := h.out
  rw [hn] at hf2 ⊢
  have HFU := lhid hf2
  clear hn hf2 h
  go_enter Try.func36, Try.ntmps36
  go_upto_region 1 with fail
  generalize hW : World.alloc _ _ = w8
  have hb8 : Below w.heap.size w w8 := by rw [← hW]; exact (Below.refl _ _).alloc (Nat.le_refl _) _
  have hF8 : FBox w8 w.heap.size (.slice FA f.regs.length ac) (.slice FB f.params.length bc) f.ret (.slice D n dcap) (.slice E f.rows.length ecap) := by rw [← hW]; exact heap_alloc_new w _
  have HFK : Hid (∀ w', Below w8.heap.size w8 w' → w'.cell? ⟨w.heap.size, 0, none⟩ = some (.slice FA f.regs.length ac) ∧ w'.cell? ⟨w.heap.size, 1, none⟩ = some (.slice FB f.params.length bc) ∧ w'.cell? ⟨w.heap.size, 2, none⟩ = some (.int .i64 f.ret) ∧ w'.cell? ⟨w.heap.size, 3, none⟩ = some (.slice D n dcap) ∧ w'.cell? ⟨w.heap.size, 4, none⟩ = some (.slice E f.rows.length ecap)) := lhid (fun w' hb => FBox.cells (heap_keep hF8 hb))
  have HU8 := lhid (HFU.out.below hb8)
  have HB8 := lhid hb8
  have HRL : Hid (f.rows.length * 8 ≤ 140737488355328) := lhid (by have := hrl.out; omega)
  clear hW hb8 hF8
  refine wp_region_held_drew (S := fun w' => Below w8.heap.size w8 w') (by kernel_rfl) (Below.drew' (Below.refl _ _)) ?_
  intro hS0
  refine wpAnyH_take (i := 0) (v := ?tvp0) rfl (by kernel_rfl) (by kernel_rfl) (by kernel_rfl) (fun _ _ _ h => h) (Or.inl ⟨by rfl, ?typ0⟩) hS0 ?trp0
  case typ0 => (intro w' hw'; obtain ⟨y0, y1, y2, y3, y4⟩ := HFK.out w' hw'; go_simp; try with_reducible rfl)
  try simp only [Act.put, List.setIfInBounds_toArray, List.set_cons_zero, List.set_cons_succ]
  try simp only [List.getElem_toArray, List.getElem_cons_zero, List.getElem_cons_succ]
  refine wpAnyH_take (i := 1) (v := ?tvp1) rfl (by kernel_rfl) (by kernel_rfl) (by kernel_rfl) (fun _ _ _ h => h) (Or.inl ⟨by rfl, ?typ1⟩) hS0 ?trp1
  case typ1 => (intro w' hw'; obtain ⟨y0, y1, y2, y3, y4⟩ := HFK.out w' hw'; go_simp; try with_reducible rfl)
  try simp only [Act.put, List.setIfInBounds_toArray, List.set_cons_zero, List.set_cons_succ]
  try simp only [List.getElem_toArray, List.getElem_cons_zero, List.getElem_cons_succ]
  refine wpAnyH_take (i := 3) (v := ?tvp3) rfl (by kernel_rfl) (by kernel_rfl) (by kernel_rfl) (fun _ _ _ h => h) (Or.inl ⟨by rfl, ?typ3⟩) hS0 ?trp3
  case typ3 => (intro w' hw'; obtain ⟨y0, y1, y2, y3, y4⟩ := HFK.out w' hw'; go_simp; try with_reducible rfl)
  try simp only [Act.put, List.setIfInBounds_toArray, List.set_cons_zero, List.set_cons_succ]
  try simp only [List.getElem_toArray, List.getElem_cons_zero, List.getElem_cons_succ]
  refine wpAnyH_take (i := 4) (v := ?tvp4) rfl (by kernel_rfl) (by kernel_rfl) (by kernel_rfl) (fun _ _ _ h => h) (Or.inl ⟨by rfl, ?typ4⟩) hS0 ?trp4
  case typ4 => (intro w' hw'; obtain ⟨y0, y1, y2, y3, y4⟩ := HFK.out w' hw'; go_simp; try with_reducible rfl)
  try simp only [Act.put, List.setIfInBounds_toArray, List.set_cons_zero, List.set_cons_succ]
  try simp only [List.getElem_toArray, List.getElem_cons_zero, List.getElem_cons_succ]
  refine wpAnyH_ready (rs := [2]) (by kernel_rfl) (by simp) ?_
  refine AllReadyH.cons rfl (fun K hK => ?_) AllReadyH.nil
  go_simp
  refine (rnext_any f _ _ _ _ i _ (lhid (HU8.out.below hS0))).mono ?_
  rintro e wx ⟨v1, rfl, hn1, hbn⟩
  have hS1 : Below w8.heap.size w8 wx := hS0.trans (hbn.mono hS0.size)
  have h01 := own_base (B' := w8.heap.size) hn1 hS0.size
  dsimp only
  refine hK.out _ _ hS1 (fun _ => ?_)
  clear hK K
  try simp only [Act.put, List.setIfInBounds_toArray, List.set_cons_zero, List.set_cons_succ]
  try simp only [List.getElem_toArray, List.getElem_cons_zero, List.getElem_cons_succ]
  refine wpAnyH_ready (rs := [5]) (by kernel_rfl) (by simp) ?_
  refine AllReadyH.cons rfl (fun K hK => ?_) AllReadyH.nil
  go_simp
  refine (rcaught_any f _ _ _ _ i _ (lhid (HU8.out.below hS1)) HRL).mono ?_
  rintro e wy ⟨v2, rfl, hn2, hbc⟩
  have hS2 : Below w8.heap.size w8 wy := hS1.trans (hbc.mono hS1.size)
  have ho1 : OwN wy w8.heap.size v1 (nextL f i) := own_below h01 hbc
  have ho2 : OwN wy w8.heap.size v2 (caughtL f i) := own_base hn2 hS1.size
  dsimp only
  refine hK.out _ _ hS2 (fun _ => ?_)
  clear hK K hn1 hn2 hbn hbc h01
  try simp only [Act.put, List.setIfInBounds_toArray, List.set_cons_zero, List.set_cons_succ]
  try simp only [List.getElem_toArray, List.getElem_cons_zero, List.getElem_cons_succ]
  have hsz : w8.heap.size ≤ wy.heap.size := hS2.size
  obtain ⟨v', wz, hrun, ho3, hb3⟩ := run_append_two (B := w8.heap.size) 22 ho1 ho2 hsz (by have h1 := nextL_two f i; have h2 := caught_len f i; have h3 := hrl.out; omega)
  have hS3 : Below w8.heap.size w8 wz := hS2.trans hb3
  have HO3 : Hid (OwN wz w8.heap.size v' (nxA f i)) := lhid ho3
  have HS3 : Hid (Below w.heap.size w wz) := lhid (HB8.out.trans (hS3.mono HB8.out.size))
  have HS8 := lhid HB8.out.size
  clear ho1 ho2 ho3 hb3 hsz
  refine wpAnyH_ready (rs := [6]) (by kernel_rfl) (by simp) ?_
  refine AllReadyH.cons rfl (fun K hK => ?_) AllReadyH.nil
  refine step_app (by rfl) rfl rfl rfl hrun ?_
  refine hK.out _ _ hS3 (fun _ => ?_)
  clear hK K hrun
  try simp only [Act.put, List.setIfInBounds_toArray, List.set_cons_zero, List.set_cons_succ]
  try simp only [List.getElem_toArray, List.getElem_cons_zero, List.getElem_cons_succ]
  refine wpAnyH_take (i := 7) (v := ?tvq7) rfl (by kernel_rfl) (by kernel_rfl) (by kernel_rfl) (fun _ _ _ h => h) (Or.inl ⟨by rfl, ?tyq7⟩) hS3 ?trq7
  case tyq7 => (intro w' hw'; go_simp; try with_reducible rfl)
  try simp only [Act.put, List.setIfInBounds_toArray, List.set_cons_zero, List.set_cons_succ]
  try simp only [List.getElem_toArray, List.getElem_cons_zero, List.getElem_cons_succ]
  refine wpAnyH_done (by kernel_rfl) ?_ _
  go_wp2_with fail
  go_ret
  exact ⟨_, rfl, own_base HO3.out HS8.out, HS3.out⟩
end Go.Proofs.Ytcfgeojimjihaaa
/- What can be reached from the beginning: the document's Reach. -/
namespace Go.Proofs.Ytcfgeojimjihaaa
open Go.RowKit Go
set_option linter.unusedVariables false
set_option linter.unusedSimpArgs false

def updB (S : Nat → Bool) (p : Nat) : Nat → Bool := fun j => if j = p then true else S j
def cntF (n : Nat) (S : Nat → Bool) : Nat := (List.range n).countP fun i => !S i
theorem cntF_upd {n p : Nat} {S : Nat → Bool} (hp : p < n) (h : S p = false) : cntF n (updB S p) + 1 ≤ cntF n S := by
  refine countP_lt (fun b _ hb => ?_) p (List.mem_range.2 hp) (by simp [updB]) (by simp [h])
  unfold updB at hb
  split at hb
  · cases hb
  · exact hb
theorem BooB.upd {w : World} {g n p : Nat} {S : Nat → Bool} (h : BooB w g n S n) : BooB (w.setCell ⟨g, p, none⟩ (.bool true)) g n (updB S p) n := by
  obtain ⟨c, h1, h2, h3⟩ := h
  refine ⟨_, heap_set h1 _, by simpa using h2, fun j hj => ?_⟩
  by_cases e : p = j
  · subst e
    exact ⟨true, by rw [Array.getElem?_setIfInBounds, if_pos rfl, if_pos (by omega)], fun _ => by simp [updB]⟩
  · obtain ⟨y, h4, h5⟩ := h3 j hj
    exact ⟨y, by rw [Array.getElem?_setIfInBounds, if_neg e]; exact h4, fun h => by rw [h5 h, updB, if_neg (fun e2 => e e2.symm)]⟩
theorem BooB.at' {w : World} {g n k i : Nat} {F : Nat → Bool} (h : BooB w g n F k) (hi : i < n) (hk : i < k) : w.cell? ⟨g, i, none⟩ = some (.bool (F i)) := by
  obtain ⟨c, h1, h2, h3⟩ := h
  obtain ⟨z, h4, h5⟩ := h3 i hi
  rw [← h5 hk]
  exact heap_cell h1 h4
theorem mem_uniq {xs : List Int} {s : Int} (h : s ∈ xs) : s ∈ uniqL xs := by
  have key : ∀ (xs l : List Int), (s ∈ l ∨ s ∈ xs) → s ∈ xs.foldl addU l := by
    intro xs
    induction xs with
    | nil =>
      rintro l (h | h)
      · exact h
      · cases h
    | cons x r ih =>
      rintro l h
      refine ih _ ?_
      unfold addU
      rcases h with h | h
      · left; split
        · exact h
        · exact List.mem_append_left _ h
      · rcases List.mem_cons.1 h with rfl | h
        · left; split
          · assumption
          · simp
        · exact .inr h
  exact key xs [] (.inr h)
theorem nxA_mem {f : FuI} {i : Nat} {s : Int} (hi : i < f.code.length) : s ∈ nxA f i ↔ s ∈ (webN f).nx i ∨ ((webN f).th i = true ∧ s ∈ (webN f).ct i) := by
  obtain ⟨x, hx⟩ : ∃ x, f.code[i]? = some x := ⟨_, List.getElem?_eq_getElem hi⟩
  have hth : (webN f).th i = throwsB x.op := by show (match f.code[i]? with | some x => throwsB x.op | none => false) = _; rw [hx]
  have hct : (webN f).ct i = catL f.rows i := rfl
  have hnx : (webN f).nx i = nextL f i := rfl
  have hcg : caughtL f i = if throwsB x.op then uniqL (catL f.rows i) else [] := by unfold caughtL; rw [atC_some hx]
  unfold nxA
  rw [List.mem_append, hth, hct, hnx, hcg]
  cases throwsB x.op with
  | true => simp only [if_true, true_and]; exact ⟨fun h => h.imp id uniq_mem, fun h => h.imp id mem_uniq⟩
  | false => simp
/-- What holds of the marks throughout. -/
structure RchI (f : FuI) (S : Nat → Bool) : Prop where
  sound : ∀ i, i < f.code.length → S i = true → reachP f i
  first : 0 < f.code.length → S 0 = true
theorem RchI.upd {f : FuI} {S : Nat → Bool} (h : RchI f S) {i p : Nat} (hi : i < f.code.length) (hS : S i = true) (hp : (p : Int) ∈ nxA f i) (hpn : p < f.code.length) : RchI f (updB S p) where
  sound j hj hs := by
    unfold updB at hs
    split at hs
    · rename_i e
      subst e
      rcases (nxA_mem hi).1 hp with h1 | ⟨h1, h2⟩
      · exact .next (h.sound i hi hS) hi h1 hpn (by simp)
      · exact .caught (h.sound i hi hS) hi h1 h2 hpn
    · exact h.sound j hj hs
  first h0 := by
    unfold updB
    split
    · rfl
    · exact h.first h0
def ClsS (f : FuI) (S : Nat → Bool) (k : Nat) : Prop := ∀ i, i < k → S i = true → ∀ j : Nat, (j : Int) ∈ nxA f i → j < f.code.length → S j = true
theorem RchI.all {f : FuI} {S : Nat → Bool} (h : RchI f S) (hc : ClsS f S f.code.length) (i : Nat) (hi : i < f.code.length) : S i = true ↔ reachP f i := by
  refine ⟨h.sound i hi, fun hr => ?_⟩
  unfold reachP at hr
  clear hi
  induction hr with
  | first h0 _ => exact h.first h0
  | next _ hi hj hjn _ ih => exact hc _ hi ih _ ((nxA_mem hi).2 (.inl hj)) hjn
  | caught _ hi ht hj hjn ih => exact hc _ hi ih _ ((nxA_mem hi).2 (.inr ⟨ht, hj⟩)) hjn
theorem upd_first {f : FuI} {i : Nat} (hi : i < f.code.length) (hs : updB (fun _ => false) 0 i = true) : reachP f i := by
  unfold updB at hs
  split at hs
  · rename_i e
    subst e
    exact .first hi (by decide)
  · cases hs
def b2n (b : Bool) : Nat := if b then 1 else 0
set_option maxHeartbeats 32000000 in
set_option maxRecDepth 100000 in
theorem rreach_any {P : Nat → Prop} (f : FuI) (fa fb fd fe : Value) (w : World) (h : Hid (FuV P w f fa fb fd fe)) (hcl : Hid ((f.code.length + 1) * 1024 ≤ 140737488355328)) (hrl : Hid ((f.rows.length + 2) * 8 ≤ 140737488355328)) :
    Calls Try.prog 15 #[fuL fa fb f.ret fd fe] w fun e w' => ∃ (g : Nat) (R : List Bool), e = .returned (.slice (some ⟨g, 0, none⟩) f.code.length f.code.length) ∧ w.heap.size ≤ g ∧ RdX (fun b => b = g) 1 BlE w' (.slice (some ⟨g, 0, none⟩) f.code.length f.code.length) R ∧ IsReach f R ∧ Below w.heap.size w w' := by
  obtain ⟨FA, ac, hFA⟩ := h.out.a.shape
  subst hFA
  obtain ⟨FB, bc, hFB⟩ := h.out.b.shape
  subst hFB
  obtain ⟨D, dcap, hD⟩ := h.out.d.shape
  subst hD
  obtain ⟨E, ecap, hE⟩ := h.out.e.shape
  subst hE
  obtain ⟨n, hn⟩ : ∃ n, f.code.length = n := ⟨_, rfl⟩
  have HN := lhid hn
  have hcl2 := hcl.out
  have hf2 := h.out
  rw [hn] at hcl2 hf2 ⊢
  have HFU := lhid hf2
  clear hn hf2 h
  have hmk3 := make_bools n (by omega)
  go_enter Try.func15, Try.ntmps15
  go_upto_if 14 with fail
  generalize hw1 : World.alloc _ _ = w1
  generalize hG : w.heap.size + 1 = G
  have hF1 : FBox w1 w.heap.size (.slice FA f.regs.length ac) (.slice FB f.params.length bc) f.ret (.slice D n dcap) (.slice E f.rows.length ecap) := by rw [← hw1]; exact (Below.heap_alloc _ _ _ (by simp)).trans (heap_alloc_new w _)
  have HR1 : Hid (BooB w1 G n (fun _ => false) n) := lhid (by
    have h9 := BooB.made (w.alloc (.cells #[.slice FA f.regs.length ac, .slice FB f.params.length bc, .int .i64 f.ret, .slice D n dcap, .slice E f.rows.length ecap] 26)) n (fun _ => false)
    rw [hw1] at h9
    rw [show (w.alloc (.cells #[.slice FA f.regs.length ac, .slice FB f.params.length bc, .int .i64 f.ret, .slice D n dcap, .slice E f.rows.length ecap] 26)).heap.size = G by simp; omega] at h9
    obtain ⟨c, h1, h2, h3⟩ := h9
    refine ⟨c, h1, h2, fun j hj => ⟨false, ?_, fun _ => rfl⟩⟩
    rw [← hw1] at h1
    have h4 := heap_alloc_new (w.alloc (.cells #[.slice FA f.regs.length ac, .slice FB f.params.length bc, .int .i64 f.ret, .slice D n dcap, .slice E f.rows.length ecap] 26)) (.cells (madeCells #[.bool false] n) 4)
    rw [show (w.alloc (.cells #[.slice FA f.regs.length ac, .slice FB f.params.length bc, .int .i64 f.ret, .slice D n dcap, .slice E f.rows.length ecap] 26)).heap.size = G by simp; omega] at h4
    rw [h4] at h1
    injection h1 with h1
    injection h1 with h1
    rw [← h1]
    exact made_at0 _ _ _ _ hj (by rw [show j % (#[Value.bool false] : Array Value).size = 0 from Nat.mod_one j]; rfl))
  have HB1 : Hid (Below w.heap.size w w1) := lhid (by rw [← hw1]; exact ((Below.refl _ _).alloc (Nat.le_refl _) _).alloc (by simp) _)
  have HNUM : Hid (G = w.heap.size + 1 ∧ w1.heap.size = G + 1) := lhid ⟨hG.symm, by rw [← hw1]; simp; omega⟩
  have HF1 := lhid hF1
  clear hw1 hF1 hmk3 hG
  go_cut [] from 8 (fun wc => Hid (Ch (fun b => b = G) w1 wc) ∧ ∃ S, Hid (BooB wc G n S n) ∧ Hid (RchI f S))
  case first =>
    by_cases h0 : 0 < n
    · have k0 : (0 : Int) < n := by omega
      have c0 := HR1.out.at' h0 h0
      have z0 := HR1.out.fz 0
      have l0 := HR1.out.lt
      go_wp2_with fail
      go_meet
      case rel => exact ⟨lhid ((Ch.refl (fun b => b = G) w1).set (p := ⟨G, 0, none⟩) (fun _ => rfl) _), _, lhid HR1.out.upd, lhid ⟨fun i hi hs => upd_first hi hs, fun _ => by simp [updB]⟩⟩
    · have k0 : ¬ (0 : Int) < n := by omega
      go_wp2_with fail
      go_meet
      case rel => exact ⟨lhid (Ch.refl _ _), _, HR1, lhid ⟨fun i hi => absurd hi (by have := HN.out; show ¬ i < f.code.length; omega), fun hi => absurd hi (by have := HN.out; show ¬ 0 < f.code.length; omega)⟩⟩
  case rest =>
    obtain ⟨HCc, S0, HSc, HIc⟩ := hcut
    clear HR1
    have HFc : Hid (FBox wc w.heap.size (.slice FA f.regs.length ac) (.slice FB f.params.length bc) f.ret (.slice D n dcap) (.slice E f.rows.length ecap)) := lhid (HCc.out.keep HF1.out (by have := HNUM.out; omega))
    clear HFc
    go_wp2_with fail
    go_loopg [4] (2 * cntF n S0 + 1) (fun g s wr => ∃ (S : Nat → Bool) (mr : Bool), g = 2 * cntF n S + b2n mr ∧ s = .bool mr ∧ Hid (Ch (fun b => b = G) w1 wr) ∧ Hid (BooB wr G n S n) ∧ Hid (RchI f S) ∧ Hid (mr = false → ClsS f S n))
    case atStart => exact ⟨S0, true, rfl, rfl, HCc, HSc, HIc, lhid (fun h => by cases h)⟩
    case round =>
      clear HCc HSc HIc
      obtain ⟨S, mr, rfl, rfl, HC1, HS1, HI1, HX1⟩ := hrel
      cases mr with
      | false =>
        have HFIN : Hid (∃ R : List Bool, RdX (fun b => b = G) 1 BlE wr (.slice (some ⟨G, 0, none⟩) n n) R ∧ IsReach f R ∧ Below w.heap.size w wr) := lhid (by
          refine ⟨_, HS1.out.rd (by omega), ⟨by simp [HN.out], fun i b hb => ?_⟩, HB1.out.trans (HC1.out.to HB1.out.size (fun k e => by have := HNUM.out; omega))⟩
          have hi : i < n := by have := (List.getElem?_eq_some_iff.1 hb).1; simpa using this
          rw [List.getElem?_map, List.getElem?_range hi] at hb
          injection hb with hb
          rw [← hb]
          exact HI1.out.all (by rw [HN.out]; exact HX1.out rfl) i (by rw [HN.out]; exact hi))
        go_wp2_with fail
        go_ret
        obtain ⟨R, h1, h2, h3⟩ := HFIN.out
        exact ⟨G, rfl, by have := HNUM.out; omega, R, h1, h2, h3⟩
      | true =>
        obtain ⟨C0, hC0⟩ : ∃ C0, cntF n S = C0 := ⟨_, rfl⟩
        have HC0 := lhid hC0
        clear hC0 HX1
        go_wp2_with fail
        go_loopg [4, 5] n (fun g s i wr => ∃ (k : Nat) (S : Nat → Bool) (mr : Bool), g = n - k ∧ i = .int .i64 k ∧ s = .bool mr ∧ k ≤ n ∧ Hid (cntF n S + b2n mr ≤ C0) ∧ Hid (Ch (fun b => b = G) w1 wr) ∧ Hid (BooB wr G n S n) ∧ Hid (RchI f S) ∧ Hid (mr = false → ClsS f S k))
        case atStart => exact ⟨0, S, false, rfl, rfl, rfl, Nat.zero_le _, lhid (by rw [HC0.out]; exact Nat.le_refl _), HC1, HS1, HI1, lhid (fun _ i hi => by omega)⟩
        case round =>
          clear HC1 HS1 HI1
          obtain ⟨k, S, mr, rfl, rfl, rfl, hk, HZ, HC1, HS1, HI1, HX1⟩ := hrel
          by_cases hlt : k < n
          · have k3 : (k : Int) < n := by omega
            have c0 := HS1.out.at' hlt hlt
            have hwk : wrap64 ((k : Int) + 1) = ((k + 1 : Nat) : Int) := by rw [IntWalk.wrap64_in _ (by omega)]; omega
            cases hsk : S k with
            | false =>
              rw [hsk] at c0
              have HXn : Hid (mr = false → ClsS f S (k + 1)) := lhid (fun h i hi hs => by
                rcases Nat.lt_succ_iff_lt_or_eq.1 hi with h1 | rfl
                · exact HX1.out h i h1 hs
                · rw [hsk] at hs; cases hs)
              clear hsk
              go_wp2_with fail
              go_roundg (n - (k + 1))
              case measure => omega
              case rel => exact ⟨k + 1, S, mr, rfl, by first | rfl | rw [hwk], rfl, by omega, HZ, HC1, HS1, HI1, HXn⟩
            | true =>
              rw [hsk] at c0
              have HSK := lhid hsk
              have hFr : FBox wr w.heap.size (.slice FA f.regs.length ac) (.slice FB f.params.length bc) f.ret (.slice D n dcap) (.slice E f.rows.length ecap) := HC1.out.keep HF1.out (by have := HNUM.out; omega)
              obtain ⟨p0, p1, p2, p3, p4⟩ := hFr.cells
              have HBr : Hid (Below w.heap.size w wr) := lhid (HB1.out.trans (HC1.out.to HB1.out.size (fun k e => by have := HNUM.out; omega)))
              have HUr := lhid (HFU.out.below HBr.out)
              clear hsk hFr
              go_wp2_with fail
              with_reducible refine (rall_any f _ _ _ _ (k : Int) wr HUr hrl).mono ?_
              rintro e w5 ⟨v, rfl, hv, hb5⟩
              obtain ⟨NX, hNX⟩ : ∃ NX, nxA f (k : Int) = NX := ⟨_, rfl⟩
              rw [hNX] at hv
              obtain ⟨VA, vc, hve⟩ := own_shape hv
              subst hve
              have HNX := lhid hNX
              have HO5 := lhid hv
              have HC5 := lhid (HC1.out.below hb5)
              have HS5 : Hid (BooB w5 G n S n) := lhid (HS1.out.of (hb5.block G HS1.out.lt))
              have HGO : Hid (∀ b, (Value.slice VA NX.length vc).ownBlock = some b → G < b) := lhid (fun b hb => by have h1 := own_lt hv b hb; have h2 := HS1.out.lt; omega)
              have hnl : NX.length ≤ f.rows.length + 2 := by
                rw [← hNX]
                unfold nxA
                rw [List.length_append]
                have h1 := nextL_two f k
                have h2 := caught_len f k
                omega
              have HNL := lhid hnl
              clear hv hb5 hNX hnl p0 p1 p2 p3 p4 c0 HS1 HC1 HUr HBr
              go_wp2_with fail
              go_loopg [4, 7] NX.length (fun g s i wr => ∃ (q : Nat) (S : Nat → Bool) (mr : Bool), g = NX.length - q ∧ i = .int .i64 q ∧ s = .bool mr ∧ q ≤ NX.length ∧ Hid (cntF n S + b2n mr ≤ C0) ∧ Hid (Ch (fun b => b = G) w5 wr) ∧ Hid (BooB wr G n S n) ∧ Hid (RchI f S) ∧ Hid (S k = true) ∧ Hid (mr = false → ClsS f S k ∧ ∀ j : Nat, (j : Int) ∈ NX.take q → j < n → S j = true))
              case atStart => exact ⟨0, S, mr, rfl, rfl, rfl, Nat.zero_le _, HZ, lhid (Ch.refl _ _), HS5, HI1, HSK, lhid (fun h => ⟨HX1.out h, fun j hj => by simp at hj⟩)⟩
              case round =>
                clear HS5 HI1 HSK HX1 HZ
                obtain ⟨q, S, mr, rfl, rfl, rfl, hq, HZ, HCq, HS5, HI1, HSK, HX1⟩ := hrel
                by_cases hlq : q < NX.length
                · obtain ⟨x, hx⟩ : ∃ x, NX[q]? = some x := ⟨_, List.getElem?_eq_getElem hlq⟩
                  obtain ⟨vg, hvg⟩ : ∃ vg, VA = some ⟨vg, 0, none⟩ := by
                    rcases HO5.out.2 with ⟨_, h2⟩ | ⟨g, cap, cur, h1, _⟩
                    · omega
                    · injection h1 with h1
                      exact ⟨g, h1⟩
                  subst hvg
                  have hgv := HGO.out vg rfl
                  have d0 : w5.cell? ⟨vg, q, none⟩ = some (.int .i64 x) := by
                    rw [HO5.out.cellAt q (by omega), List.getElem?_map, hx]
                    rfl
                  replace d0 := (World.cell?_of_block (a := ⟨vg, q, none⟩) (HCq.out.block vg (cell_lt d0) (by omega))).trans d0
                  have HX := lhid hx
                  have k5 : (q : Int) < NX.length := by omega
                  have hwq : wrap64 ((q : Int) + 1) = ((q + 1 : Nat) : Int) := by rw [IntWalk.wrap64_in _ (by have := HNL.out; have := hrl.out; omega)]; omega
                  have stay : (∀ j : Nat, x = (j : Int) → j < n → S j = true) → (mr = false → ClsS f S k ∧ ∀ j : Nat, (j : Int) ∈ NX.take (q + 1) → j < n → S j = true) := fun hs h => ⟨(HX1.out h).1, fun j hj hjn => by
                    rw [take_snoc HX.out] at hj
                    rcases List.mem_append.1 hj with hj | hj
                    · exact (HX1.out h).2 j hj hjn
                    · rw [List.mem_singleton] at hj
                      exact hs j hj.symm hjn⟩
                  have HST := lhid stay
                  clear hx stay
                  by_cases hx0 : 0 ≤ x
                  · by_cases hxn : x < n
                    · obtain ⟨y, rfl⟩ : ∃ y : Nat, x = y := ⟨x.toNat, by omega⟩
                      have hyn : y < n := by omega
                      have c0 := HS5.out.at' hyn hyn
                      have z0 := HS5.out.fz y
                      have l0 := HS5.out.lt
                      cases hsy : S y with
                      | true =>
                        rw [hsy] at c0
                        have HXn := lhid (HST.out (fun j e _ => (show y = j by omega) ▸ hsy))
                        clear hsy
                        go_wp2_with fail
                        go_roundg (NX.length - (q + 1))
                        case measure => omega
                        case rel => exact ⟨q + 1, S, mr, rfl, by first | rfl | rw [hwq], rfl, by omega, HZ, HCq, HS5, HI1, HSK, HXn⟩
                      | false =>
                        rw [hsy] at c0
                        have hkn : k < f.code.length := by have := HN.out; omega
                        have HIn := lhid (HI1.out.upd hkn HSK.out (p := y) (by rw [HNX.out]; exact List.mem_of_getElem? HX.out) (by have := HN.out; omega))
                        have HSn := lhid (HS5.out.upd (p := y))
                        have HCn := lhid (HCq.out.set (p := ⟨G, y, none⟩) (fun _ => rfl) (.bool true))
                        have HKn : Hid (updB S y k = true) := lhid (by unfold updB; split <;> first | rfl | exact HSK.out)
                        have HZn : Hid (cntF n (updB S y) + b2n true ≤ C0) := lhid (by have h1 := cntF_upd hyn hsy; have h2 := HZ.out; simp [b2n] at h2 ⊢; omega)
                        clear hsy hkn
                        go_wp2_with fail
                        go_roundg (NX.length - (q + 1))
                        case measure => omega
                        case rel => exact ⟨q + 1, updB S y, true, rfl, by first | rfl | rw [hwq], rfl, by omega, HZn, HCn, HSn, HIn, HKn, lhid (fun h => by cases h)⟩
                    · have HXn := lhid (HST.out (fun j e hj => absurd hj (by omega)))
                      go_wp2_with fail
                      go_roundg (NX.length - (q + 1))
                      case measure => omega
                      case rel => exact ⟨q + 1, S, mr, rfl, by first | rfl | rw [hwq], rfl, by omega, HZ, HCq, HS5, HI1, HSK, HXn⟩
                  · have HXn := lhid (HST.out (fun j e hj => absurd e (by omega)))
                    go_wp2_with fail
                    go_roundg (NX.length - (q + 1))
                    case measure => omega
                    case rel => exact ⟨q + 1, S, mr, rfl, by first | rfl | rw [hwq], rfl, by omega, HZ, HCq, HS5, HI1, HSK, HXn⟩
                · have k5 : ¬ (q : Int) < NX.length := by omega
                  have HXn : Hid (mr = false → ClsS f S (k + 1)) := lhid (fun h i hi hs j hj hjn => by
                    have h9 := HX1.out h
                    rcases Nat.lt_succ_iff_lt_or_eq.1 hi with h1 | rfl
                    · exact h9.1 i h1 hs j hj hjn
                    · rw [List.take_of_length_le (by omega)] at h9
                      exact h9.2 j (by rw [← HNX.out]; exact hj) (by have := HN.out; omega))
                  have HCr := lhid (HC5.out.trans HCq.out (fun _ _ h => h))
                  go_wp2_with fail
                  go_roundg (n - (k + 1))
                  case measure => omega
                  case rel => exact ⟨k + 1, S, mr, rfl, by first | rfl | rw [hwk], rfl, by omega, HZ, HCr, HS5, HI1, HXn⟩
          · have k3 : ¬ (k : Int) < n := by omega
            have hke : k = n := by omega
            subst hke
            go_wp2_with fail
            go_roundg (2 * cntF k S + b2n mr)
            case measure =>
              have h1 := HZ.out
              have h2 := HC0.out
              have h3 : b2n true = 1 := rfl
              cases mr <;> simp [b2n] at h1 ⊢ <;> omega
            case rel => exact ⟨S, mr, rfl, rfl, HC1, HS1, HI1, HX1⟩
end Go.Proofs.Ytcfgeojimjihaaa
/- The places at which a block begins: the document's Heads. -/
namespace Go.Proofs.Ytcfgeojimjihaaa
open Go.RowKit Go
set_option linter.unusedVariables false
set_option linter.unusedSimpArgs false

def hd1 (f : FuI) (k : Nat) : Bool := match k with
  | 0 => true
  | j + 1 => match f.code[j]? with
    | some x => leadsB x.op || endsB x.op
    | none => false
def hd2 (f : FuI) (k m : Nat) : Bool := (f.code.take m).any fun x => leadsB x.op && decide (x.too = (k : Int))
def hd3 (f : FuI) (k m : Nat) : Bool := (f.rows.take m).any fun r => decide (r.fr = (k : Int)) || decide (r.too = (k : Int)) || decide (r.at_ = (k : Int))
theorem hd2_succ {f : FuI} {k m : Nat} {x : InI} (h : f.code[m]? = some x) : hd2 f k (m + 1) = (hd2 f k m || (leadsB x.op && decide (x.too = (k : Int)))) := by
  unfold hd2
  rw [List.take_add_one, h, List.any_append]
  simp
theorem hd3_succ {f : FuI} {k m : Nat} {r : RwI} (h : f.rows[m]? = some r) : hd3 f k (m + 1) = (hd3 f k m || (decide (r.fr = (k : Int)) || decide (r.too = (k : Int)) || decide (r.at_ = (k : Int)))) := by
  unfold hd3
  rw [List.take_add_one, h, List.any_append]
  simp
theorem any_take {α : Type} {p : α → Bool} {l : List α} {m : Nat} (h : (l.take m).any p = true) : l.any p = true := by
  rw [List.any_eq_true] at h ⊢
  obtain ⟨x, h1, h2⟩ := h
  exact ⟨x, List.mem_of_mem_take h1, h2⟩
theorem hd_mem {f : FuI} {k : Nat} (hk : k < f.code.length) : hmB f k = (hd1 f k || hd2 f k f.code.length || hd3 f k f.rows.length) := by
  rw [Bool.eq_iff_iff]
  unfold hmB hmL hd2 hd3
  rw [decide_eq_true_eq, List.take_length, List.take_length, Bool.or_eq_true, Bool.or_eq_true, List.mem_append, List.mem_append, List.any_eq_true, List.any_eq_true]
  have hT : (k : Int) ∈ hmT f.code f.code.length ↔ ∃ (j : Nat) (x : InI), f.code[j]? = some x ∧ (k : Int) ∈ hmX x j := by
    unfold hmT
    rw [List.mem_flatMap]
    constructor
    · rintro ⟨j, hj, h⟩
      rw [List.mem_range] at hj
      obtain ⟨x, hx⟩ : ∃ x, f.code[j]? = some x := ⟨_, List.getElem?_eq_getElem hj⟩
      rw [hx] at h
      exact ⟨j, x, hx, h⟩
    · rintro ⟨j, x, hx, h⟩
      refine ⟨j, List.mem_range.2 (List.getElem?_eq_some_iff.1 hx).1, ?_⟩
      rw [hx]
      exact h
  have hR : (k : Int) ∈ hmR f.rows f.rows.length ↔ ∃ r ∈ f.rows, (k : Int) = r.fr ∨ (k : Int) = r.too ∨ (k : Int) = r.at_ := by
    unfold hmR
    rw [List.take_length, List.mem_flatMap]
    simp
  rw [hT, hR]
  constructor
  · rintro ((h | ⟨j, x, hx, h⟩) | ⟨r, hr, h⟩)
    · have hk0 : k = 0 := by simp at h; omega
      subst hk0
      exact .inl (.inl rfl)
    · unfold hmX at h
      rcases List.mem_append.1 h with h | h
      · cases hz : leadsB x.op with
        | false => rw [hz] at h; simp at h
        | true =>
          rw [hz] at h
          simp only [if_true, List.mem_cons, List.not_mem_nil, or_false] at h
          rcases h with h | h
          · exact .inl (.inr ⟨x, List.mem_of_getElem? hx, by simp [hz, h]⟩)
          · obtain rfl : k = j + 1 := by omega
            exact .inl (.inl (by unfold hd1; simp only [hx, hz, Bool.true_or]))
      · cases hz : endsB x.op with
        | false => rw [hz] at h; simp at h
        | true =>
          rw [hz] at h
          simp only [if_true, List.mem_cons, List.not_mem_nil, or_false] at h
          obtain rfl : k = j + 1 := by omega
          exact .inl (.inl (by unfold hd1; simp only [hx, hz, Bool.or_true]))
    · refine .inr ⟨r, hr, ?_⟩
      rcases h with h | h | h <;> simp [h]
  · rintro ((h | ⟨x, hx, h⟩) | ⟨r, hr, h⟩)
    · unfold hd1 at h
      split at h
      · exact .inl (.inl (by simp))
      · rename_i j
        split at h
        · rename_i x hx
          refine .inl (.inr ⟨j, x, hx, ?_⟩)
          unfold hmX
          rw [Bool.or_eq_true] at h
          rcases h with h | h <;> simp [h]
        · cases h
    · obtain ⟨j, hj⟩ := List.getElem?_of_mem hx
      rw [Bool.and_eq_true, decide_eq_true_eq] at h
      exact .inl (.inr ⟨j, x, hj, by unfold hmX; simp [h.1, h.2]⟩)
    · refine .inr ⟨r, hr, ?_⟩
      rw [Bool.or_eq_true, Bool.or_eq_true, decide_eq_true_eq, decide_eq_true_eq, decide_eq_true_eq] at h
      omega
set_option maxHeartbeats 32000000 in
set_option maxRecDepth 100000 in
theorem rheads_any {P : Nat → Prop} (f : FuI) (fa fb fd fe : Value) (w : World) (h : Hid (FuV P w f fa fb fd fe)) (hcl : Hid (f.code.length * 96 ≤ 140737488355328)) :
    Calls Try.prog 17 #[fuL fa fb f.ret fd fe] w fun e w' => ∃ v, e = .returned v ∧ OwN w' w.heap.size v (headsL f) ∧ Below w.heap.size w w' := by
  obtain ⟨FA, ac, hFA⟩ := h.out.a.shape
  subst hFA
  obtain ⟨FB, bc, hFB⟩ := h.out.b.shape
  subst hFB
  obtain ⟨D, dcap, hD⟩ := h.out.d.shape
  subst hD
  obtain ⟨E, ecap, hE⟩ := h.out.e.shape
  subst hE
  have hel := h.out.e.len
  obtain ⟨n, hn⟩ : ∃ n, f.code.length = n := ⟨_, rfl⟩
  have HN := lhid hn
  have hf2 := h.out
  have hcl2 := hcl.out
  rw [hn] at hf2 hcl2 ⊢
  have HFU := lhid hf2
  clear hn hf2 h
  go_enter Try.func17, Try.ntmps17
  go_wp2_with fail
  generalize hW : World.alloc _ _ = wf
  have hbf : Below w.heap.size w wf := by rw [← hW]; exact (Below.refl _ _).alloc (Nat.le_refl _) _
  have hF8 : FBox wf w.heap.size (.slice FA f.regs.length ac) (.slice FB f.params.length bc) f.ret (.slice D n dcap) (.slice E f.rows.length ecap) := by rw [← hW]; exact heap_alloc_new w _
  have HFK : Hid (∀ w', Below wf.heap.size wf w' → w'.cell? ⟨w.heap.size, 0, none⟩ = some (.slice FA f.regs.length ac) ∧ w'.cell? ⟨w.heap.size, 1, none⟩ = some (.slice FB f.params.length bc) ∧ w'.cell? ⟨w.heap.size, 2, none⟩ = some (.int .i64 f.ret) ∧ w'.cell? ⟨w.heap.size, 3, none⟩ = some (.slice D n dcap) ∧ w'.cell? ⟨w.heap.size, 4, none⟩ = some (.slice E f.rows.length ecap)) := lhid (fun w' hb => FBox.cells (heap_keep hF8 hb))
  have HUF := lhid (HFU.out.below hbf)
  have HBF := lhid hbf
  obtain ⟨i0, hi0, hz0, hz1, hz2⟩ := info_parts info_nuP
  clear hW hbf hF8
  go_loopg [3, 4] n (fun g l i wr => ∃ (T : List Int) (A : Option Addr) (q k : Nat), g = n - k ∧ l = .slice A T.length q ∧ i = .int .i64 k ∧ k ≤ n ∧ Hid (T = hdT f k) ∧ Hid (OwN wr wf.heap.size (.slice A T.length q) T) ∧ Hid (Below wf.heap.size wf wr))
  case atStart => exact ⟨[], none, 0, 0, rfl, rfl, rfl, Nat.zero_le _, lhid (by simp [hdT]), lhid (World.ownsRow_nil _ _ _ _), lhid (Below.refl _ _)⟩
  case round =>
    obtain ⟨T, A, q, k, rfl, rfl, rfl, hk, HT, HO, HB⟩ := hrel
    obtain ⟨p0, p1, p2, p3, p4⟩ := HFK.out _ HB.out
    by_cases hlt : k < n
    · have k3 : (k : Int) < n := by omega
      have hwk : wrap64 ((k : Int) + 1) = (k : Int) + 1 := IntWalk.wrap64_in _ (by omega)
      go_upto_if 19 with fail
      go_cut [5] from 5 to 104 (fun s5 wc => ∃ b1 : Bool, s5 = .bool b1 ∧ Hid (hd1 f k = b1) ∧ Hid (OwN wc wf.heap.size (.slice A T.length q) T) ∧ Hid (Below wf.heap.size wf wc))
      case first =>
        by_cases h0 : k = 0
        · subst h0
          go_wp2_with fail
          go_meet
          case rel => exact ⟨true, rfl, lhid rfl, HO, HB⟩
        · obtain ⟨j, hj⟩ : ∃ j, k = j + 1 := ⟨k - 1, by omega⟩
          obtain ⟨x, hx⟩ : ∃ x, f.code[k - 1]? = some x := ⟨_, List.getElem?_eq_getElem (by have := HN.out; omega)⟩
          obtain ⟨g, o, v, hD, _, hv, c0, c1, c2, c3, c4, c5, c6, c7, c8⟩ := in_cells HUF.out.d hx
          subst hD
          replace c0 := (HB.out.cell (cell_lt c0)).trans c0
          have q1 : (0 : Int) < k := by omega
          have q2 : ((k : Int) == 0) = false := by simp; omega
          have q3 : wrap64 ((k : Int) - 1) = (j : Int) := by rw [IntWalk.wrap64_in _ (by omega)]; omega
          have q4 : (j : Int) < n := by omega
          have H1 : Hid (hd1 f k = (leadsB x.op || endsB x.op)) := lhid (by rw [hj, Nat.add_sub_cancel] at hx; rw [hj]; unfold hd1; simp only [hx])
          obtain ⟨ze, hze⟩ : ∃ z, endsB x.op = z := ⟨_, rfl⟩
          obtain ⟨zl, hzl⟩ : ∃ z, leadsB x.op = z := ⟨_, rfl⟩
          have HE := lhid hze
          have HL := lhid hzl
          rw [hze, hzl] at H1
          clear hx c1 c2 c3 c4 c5 c6 c7 c8 hv hze hzl hj h0
          cases zl with
          | true =>
            go_wp2_with fail
            with_reducible refine (rleads_r x.op true _ HL).mono ?_
            rintro e w4 ⟨rfl, hb⟩
            have HB4 := lhid (HB.out.trans (hb.mono HB.out.size))
            have HO4 := lhid (own_below HO.out hb)
            clear hb c0 p0 p1 p2 p3 p4
            go_wp2_with fail
            go_meet
            case rel => exact ⟨true, rfl, lhid (by rw [H1.out]; rfl), HO4, HB4⟩
          | false =>
            go_wp2_with fail
            with_reducible refine (rleads_r x.op false _ HL).mono ?_
            rintro e w4 ⟨rfl, hb⟩
            have HB4 := lhid (HB.out.trans (hb.mono HB.out.size))
            have HO4 := lhid (own_below HO.out hb)
            clear hb c0 p0 p1 p2 p3 p4
            go_wp2_with fail
            with_reducible refine (rends_r x.op ze _ HE).mono ?_
            rintro e w5 ⟨rfl, hb⟩
            have HB5 := lhid (HB4.out.trans (hb.mono HB4.out.size))
            have HO5 := lhid (own_below HO4.out hb)
            clear hb
            go_wp2_with fail
            go_meet
            case rel => exact ⟨ze, rfl, lhid (by rw [H1.out]; rfl), HO5, HB5⟩
      case rest =>
        obtain ⟨b1, rfl, HD1, HO1, HB1⟩ := hcut
        clear HO HB p0 p1 p2 p3 p4
        go_upto_block 2 with fail
        go_cut [5] from 5 to 104 (fun s5 wc => ∃ b2 : Bool, s5 = .bool b2 ∧ Hid ((hd1 f k || hd2 f k f.code.length) = b2) ∧ Hid (OwN wc wf.heap.size (.slice A T.length q) T) ∧ Hid (Below wf.heap.size wf wc))
        case first =>
          go_wp2_with fail
          go_loopg [5, 7] n (fun g s i wr => ∃ (m : Nat) (b : Bool), g = n - m ∧ s = .bool b ∧ i = .int .i64 m ∧ m ≤ n ∧ Hid ((hd1 f k || hd2 f k m) = b) ∧ Hid (OwN wr wf.heap.size (.slice A T.length q) T) ∧ Hid (Below wf.heap.size wf wr))
          case atStart => exact ⟨0, b1, rfl, rfl, rfl, Nat.zero_le _, lhid (by rw [HD1.out]; simp [hd2]), HO1, HB1⟩
          case round =>
            clear HO1 HB1
            obtain ⟨m, b, rfl, rfl, rfl, hm, HH, HO1, HB1⟩ := hrel
            obtain ⟨p0, p1, p2, p3, p4⟩ := HFK.out _ HB1.out
            by_cases hlm : m < n
            · have m3 : (m : Int) < n := by omega
              have hwm : wrap64 ((m : Int) + 1) = (m : Int) + 1 := IntWalk.wrap64_in _ (by omega)
              cases b with
              | true =>
                have HX2 : Hid ((hd1 f k || hd2 f k f.code.length) = true) := lhid (by
                  have h9 := HH.out
                  rw [Bool.or_eq_true] at h9 ⊢
                  rcases h9 with h9 | h9
                  · exact .inl h9
                  · right; unfold hd2 at h9 ⊢; rw [List.take_length]; exact any_take h9)
                go_wp2_with fail
                go_meet
                case rel => exact ⟨true, rfl, HX2, HO1, HB1⟩
              | false =>
                obtain ⟨x, hx⟩ : ∃ x, f.code[m]? = some x := ⟨_, List.getElem?_eq_getElem (by have := HN.out; omega)⟩
                obtain ⟨g, o, v, hD, _, hv, c0, c1, c2, c3, c4, c5, c6, c7, c8⟩ := in_cells HUF.out.d hx
                subst hD
                replace c0 := (HB1.out.cell (cell_lt c0)).trans c0
                have HS := lhid (hd2_succ (k := k) hx)
                have HHn : Hid ((hd1 f k || hd2 f k (m + 1)) = (leadsB x.op && decide (x.too = (k : Int)))) := lhid (by rw [HS.out, ← Bool.or_assoc, HH.out, Bool.false_or])
                obtain ⟨zl, hzl⟩ : ∃ z, leadsB x.op = z := ⟨_, rfl⟩
                have HL := lhid hzl
                rw [hzl] at HHn
                clear HS hzl hx hv
                cases zl with
                | false =>
                  go_wp2_with fail
                  with_reducible refine (rleads_r x.op false _ HL).mono ?_
                  rintro e w4 ⟨rfl, hb⟩
                  have HB4 := lhid (HB1.out.trans (hb.mono HB1.out.size))
                  have HO4 := lhid (own_below HO1.out hb)
                  clear hb c0 c1 c2 c3 c4 c5 c6 c7 c8 p0 p1 p2 p3 p4
                  go_wp2_with fail
                  go_roundg (n - (m + 1))
                  case measure => omega
                  case rel => exact ⟨m + 1, false, rfl, rfl, by go_num, by omega, HHn, HO4, HB4⟩
                | true =>
                  have HC6 := lhid c6
                  go_wp2_with fail
                  with_reducible refine (rleads_r x.op true _ HL).mono ?_
                  rintro e w4 ⟨rfl, hb⟩
                  have HB4 := lhid (HB1.out.trans (hb.mono HB1.out.size))
                  have HO4 := lhid (own_below HO1.out hb)
                  clear hb c0 c1 c2 c3 c4 c5 c6 c7 c8 p0 p1 p2 p3 p4
                  obtain ⟨p0, p1, p2, p3, p4⟩ := HFK.out _ HB4.out
                  have c6 := (HB4.out.cell (cell_lt HC6.out)).trans HC6.out
                  obtain ⟨zt, hzt⟩ : ∃ z, decide (x.too = (k : Int)) = z := ⟨_, rfl⟩
                  have hzt2 : (x.too == (k : Int)) = zt := by rw [← hzt]; rfl
                  have HHz : Hid ((hd1 f k || hd2 f k (m + 1)) = zt) := lhid (by rw [HHn.out, hzt]; rfl)
                  clear hzt HHn
                  go_wp2_with fail
                  go_roundg (n - (m + 1))
                  case measure => omega
                  case rel => exact ⟨m + 1, zt, rfl, by first | rfl | rw [hzt2], by go_num, by omega, HHz, HO4, HB4⟩
            · have m3 : ¬ (m : Int) < n := by omega
              have hme : m = f.code.length := by have := HN.out; omega
              have HX2 : Hid ((hd1 f k || hd2 f k f.code.length) = b) := lhid (by rw [← hme]; exact HH.out)
              clear hme
              go_wp2_with fail
              go_meet
              case rel => exact ⟨b, rfl, HX2, HO1, HB1⟩
        case rest =>
          obtain ⟨b2, rfl, HD2, HO2, HB2⟩ := hcut
          clear HO1 HB1
          go_upto_block 4 with fail
          go_cut [5] from 5 to 104 (fun s5 wc => ∃ b3 : Bool, s5 = .bool b3 ∧ Hid (hmB f k = b3) ∧ Hid (OwN wc wf.heap.size (.slice A T.length q) T) ∧ Hid (Below wf.heap.size wf wc))
          case first =>
            go_wp2_with fail
            go_loopg [5, 8] f.rows.length (fun g s i wr => ∃ (m : Nat) (b : Bool), g = f.rows.length - m ∧ s = .bool b ∧ i = .int .i64 m ∧ m ≤ f.rows.length ∧ Hid ((hd1 f k || hd2 f k f.code.length || hd3 f k m) = b) ∧ Hid (OwN wr wf.heap.size (.slice A T.length q) T) ∧ Hid (Below wf.heap.size wf wr))
            case atStart => exact ⟨0, b2, rfl, rfl, rfl, Nat.zero_le _, lhid (by rw [HD2.out]; simp [hd3]), HO2, HB2⟩
            case round =>
              clear HO2 HB2
              obtain ⟨m, b, rfl, rfl, rfl, hm, HH, HO2, HB2⟩ := hrel
              obtain ⟨p0, p1, p2, p3, p4⟩ := HFK.out _ HB2.out
              by_cases hlm : m < f.rows.length
              · have m3 : (m : Int) < f.rows.length := by omega
                have hwm : wrap64 ((m : Int) + 1) = (m : Int) + 1 := IntWalk.wrap64_in _ (by omega)
                cases b with
                | true =>
                  have HX2 : Hid (hmB f k = true) := lhid (by
                    rw [hd_mem (by have := HN.out; omega)]
                    have h9 := HH.out
                    rw [Bool.or_eq_true] at h9 ⊢
                    rcases h9 with h9 | h9
                    · exact .inl h9
                    · right; unfold hd3 at h9 ⊢; rw [List.take_length]; exact any_take h9)
                  go_wp2_with fail
                  go_meet
                  case rel => exact ⟨true, rfl, HX2, HO2, HB2⟩
                | false =>
                  obtain ⟨r, hx⟩ : ∃ r, f.rows[m]? = some r := ⟨_, List.getElem?_eq_getElem hlm⟩
                  obtain ⟨g, o, hE, c0, c1, c2, c3⟩ := rw_cells HUF.out.e hx
                  subst hE
                  replace c0 := (HB2.out.cell (cell_lt c0)).trans c0
                  replace c1 := (HB2.out.cell (cell_lt c1)).trans c1
                  replace c2 := (HB2.out.cell (cell_lt c2)).trans c2
                  have HS := lhid (hd3_succ (k := k) hx)
                  obtain ⟨z0, hz0'⟩ : ∃ z, decide (r.fr = (k : Int)) = z := ⟨_, rfl⟩
                  obtain ⟨z1, hz1'⟩ : ∃ z, decide (r.too = (k : Int)) = z := ⟨_, rfl⟩
                  obtain ⟨z2, hz2'⟩ : ∃ z, decide (r.at_ = (k : Int)) = z := ⟨_, rfl⟩
                  have y0 : (r.fr == (k : Int)) = z0 := by rw [← hz0']; rfl
                  have y1 : (r.too == (k : Int)) = z1 := by rw [← hz1']; rfl
                  have y2 : (r.at_ == (k : Int)) = z2 := by rw [← hz2']; rfl
                  have HHn : Hid ((hd1 f k || hd2 f k f.code.length || hd3 f k (m + 1)) = (z0 || z1 || z2)) := lhid (by rw [HS.out, ← Bool.or_assoc, HH.out, Bool.false_or, hz0', hz1', hz2'])
                  clear HS hx hz0' hz1' hz2'
                  cases z0 with
                  | true =>
                    go_wp2_with fail
                    go_roundg (f.rows.length - (m + 1))
                    case measure => omega
                    case rel => exact ⟨m + 1, true, rfl, rfl, by go_num, by omega, lhid (by rw [HHn.out]; rfl), HO2, HB2⟩
                  | false =>
                    cases z1 with
                    | true =>
                      go_wp2_with fail
                      go_roundg (f.rows.length - (m + 1))
                      case measure => omega
                      case rel => exact ⟨m + 1, true, rfl, rfl, by go_num, by omega, lhid (by rw [HHn.out]; rfl), HO2, HB2⟩
                    | false =>
                      go_wp2_with fail
                      go_roundg (f.rows.length - (m + 1))
                      case measure => omega
                      case rel => exact ⟨m + 1, z2, rfl, by first | rfl | rw [y2], by go_num, by omega, lhid (by rw [HHn.out]; rfl), HO2, HB2⟩
              · have m3 : ¬ (m : Int) < f.rows.length := by omega
                have hme : m = f.rows.length := by omega
                have HX2 : Hid (hmB f k = b) := lhid (by rw [hd_mem (by have := HN.out; omega), ← HH.out, hme])
                clear hme
                go_wp2_with fail
                go_meet
                case rel => exact ⟨b, rfl, HX2, HO2, HB2⟩
          case rest =>
            obtain ⟨b3, rfl, HD3, HO3, HB3⟩ := hcut
            clear HO2 HB2
            have hTl : T.length ≤ k := by rw [HT.out]; exact hdT_len f k
            cases b3 with
            | false =>
              have HT2 : Hid (T = hdT f (k + 1)) := lhid (by rw [hdT_no HD3.out]; exact HT.out)
              go_wp2_with fail
              go_roundg (n - (k + 1))
              case measure => omega
              case rel => exact ⟨T, A, q, k + 1, rfl, rfl, by go_num, by omega, HT2, HO3, HB3⟩
            | true =>
              have HT2 : Hid (T ++ [(k : Int)] = hdT f (k + 1)) := lhid (by rw [hdT_yes HD3.out, HT.out])
              have hbs := HB3.out.size
              go_wp2_with (at_builtin; refine wpList_append_own _ rfl (.tmp 101) (.tmp 103) 22 rfl wf.heap.size 3 i0 (.int .i64 0) 1 8 Try.underlying22 hi0 hz0 hz1 hz2 rfl (by decide) (.slice A T.length q) T.length (T.map vI) rfl (HO3.out.alloc _) ⟨wc.heap.size, 0, none⟩ 1 1 [vI (k : Int)] rfl rfl ?c1 ?c2 ?c3 ?c4 ?c5 ?_)
              case c1 => exact new_cells _ _ _
              case c2 => (intro u hu; simp at hu; subst hu; rfl)
              case c3 => (unfold maxLen; omega)
              case c4 => omega
              case c5 => (simp; omega)
              intro v' w' hown hgrow hnil
              obtain ⟨A', q', rfl⟩ := own_shape hown
              have HO4 : Hid (OwN w' wf.heap.size (.slice A' (T ++ [(k : Int)]).length q') (T ++ [(k : Int)])) := lhid (by simpa [OwN] using hown)
              have HB4 := lhid (Below.grown (HB3.out.alloc HB3.out.size _) hgrow (by simp; omega) (fun r e => own_lt HO3.out r e))
              obtain ⟨U, hU⟩ : ∃ U, T ++ [(k : Int)] = U := ⟨_, rfl⟩
              have hUl : T.length + 1 = U.length := by rw [← hU]; simp
              rw [hU] at HO4 HT2
              clear hown hgrow hnil hU
              go_wp2_with fail
              go_roundg (n - (k + 1))
              case measure => omega
              case rel => exact ⟨U, A', q', k + 1, rfl, by rw [hUl], by go_num, by omega, HT2, HO4, HB4⟩
    · have k3 : ¬ (k : Int) < n := by omega
      have hke : k = f.code.length := by have := HN.out; omega
      have HR : Hid (T = headsL f) := lhid (by rw [HT.out, hke]; rfl)
      clear hke
      go_wp2_with fail
      go_ret
      refine ⟨_, rfl, ?_, HBF.out.trans (HB.out.mono HBF.out.size)⟩
      rw [← HR.out]
      exact own_base HO.out HBF.out.size
end Go.Proofs.Ytcfgeojimjihaaa
