/- A function with what is asked of it again and again: the program's webOf. -/
import Derived.Test.YtbkeneadoccodaaM13
import Derived.Test.YtbkeneadoccodaaJCFlwBring
import Derived.Deep.RegionLaw
import Derived.Deep.RegionHeld3
namespace Go.Proofs.Ytbkeneadoccodaa
open Go.RowKit Go
set_option linter.unusedVariables false
set_option linter.unusedSimpArgs false
def cutL (rows : List RwI) (k : Nat) : List Int := (rows.take k).flatMap fun r => [r.fr, r.too]
theorem cutL_snoc {rows : List RwI} {k : Nat} {r : RwI} (h : rows[k]? = some r) : cutL rows (k + 1) = cutL rows k ++ [r.fr, r.too] := by
 unfold cutL
 rw [List.take_add_one, h]
 simp
theorem cutL_all (rows : List RwI) (i : Nat) : atL (cutL rows rows.length) i ↔ cutB rows i = true := by
 unfold atL cutL cutB
 rw [List.take_of_length_le (Nat.le_refl _), List.mem_flatMap, List.any_eq_true]
 constructor
 ·rintro ⟨r, hr, h⟩
  exact ⟨r, hr, by simp at h; rcases h with h | h <;> simp [h]⟩
 ·rintro ⟨r, hr, h⟩
  exact ⟨r, hr, by simp at h ⊢; rcases h with h | h <;> simp [h]⟩
def strB (rows : List RwI) : Nat → Int
 | 0 => 0
 | k + 1 => strN rows k
theorem strN_step (rows : List RwI) (k : Nat) : strN rows k = if cutB rows k then strB rows k + 1 else strB rows k := by
 cases k with
 | zero => rfl
 | succ k => rfl
theorem strB_at (rows : List RwI) (k : Nat) : 0 ≤ strB rows k ∧ strB rows k ≤ k := by
 induction k with
 | zero => exact ⟨Int.le_refl _, Int.le_refl _⟩
 | succ k ih =>
  have h1 := ih.1
  have h2 := ih.2
  show 0 ≤ strN rows k ∧ strN rows k ≤ _
  rw [strN_step]
  split <;> omega
def NumB (w : World) (g n : Nat) (F : Nat → Int) (k : Nat) : Prop := ∃ c : Array Value, w.heap[g]? = some (.cells c 3 (0, 0)) ∧ c.size = n ∧ ∀ j, j < n → ∃ z : Int, c[j]? = some (.int .i64 z) ∧ (j < k → z = F j)
theorem NumB.fz {w : World} {g n k : Nat} {F : Nat → Int} (h : NumB w g n F k) (i : Nat) : w.frozen? ⟨g, i, none⟩ = false := by
 obtain ⟨c, h1, _⟩ := h
 exact heap_thaw h1 i
theorem NumB.lt {w : World} {g n k : Nat} {F : Nat → Int} (h : NumB w g n F k) : g < w.heap.size := by
 obtain ⟨c, h1, _⟩ := h
 exact heap_lt h1
theorem NumB.any {w : World} {g n k i : Nat} {F : Nat → Int} (h : NumB w g n F k) (hi : i < n) : ∃ z : Int, w.cell? ⟨g, i, none⟩ = some (.int .i64 z) := by
 obtain ⟨c, h1, h2, h3⟩ := h
 obtain ⟨z, h4, _⟩ := h3 i hi
 exact ⟨z, heap_cell h1 h4⟩
theorem NumB.at' {w : World} {g n k i : Nat} {F : Nat → Int} (h : NumB w g n F k) (hi : i < n) (hk : i < k) : w.cell? ⟨g, i, none⟩ = some (.int .i64 (F i)) := by
 obtain ⟨c, h1, h2, h3⟩ := h
 obtain ⟨z, h4, h5⟩ := h3 i hi
 rw [← h5 hk]
 exact heap_cell h1 h4
theorem NumB.of {w w' : World} {g n k : Nat} {F : Nat → Int} (h : NumB w g n F k) (e : w'.heap[g]? = w.heap[g]?) : NumB w' g n F k := by
 obtain ⟨c, h1, h2⟩ := h
 exact ⟨c, e.trans h1, h2⟩
theorem NumB.put {w : World} {g n k : Nat} {F : Nat → Int} (h : NumB w g n F k) {z : Int} (hz : z = F k) : NumB (w.setCell ⟨g, k, none⟩ (.int .i64 z)) g n F (k + 1) := by
 obtain ⟨c, h1, h2, h3⟩ := h
 refine ⟨_, heap_set h1 _, by simpa using h2, fun j hj => ?_⟩
 by_cases e : k = j
 ·subst e
  exact ⟨z, by rw [Array.getElem?_setIfInBounds, if_pos rfl, if_pos (by omega)], fun _ => hz⟩
 ·obtain ⟨y, h4, h5⟩ := h3 j hj
  exact ⟨y, by rw [Array.getElem?_setIfInBounds, if_neg e]; exact h4, fun h => h5 (by omega)⟩
theorem NumB.made {w : World} {g n : Nat} {F : Nat → Int} (h : w.heap[g]? = some (.cells (madeCells #[.int .i64 0] n) 3 (0, 0))) : NumB w g n F 0 :=
 ⟨_, h, by rw [size_madeCells], fun i hi => ⟨0, made_at0 _ _ _ _ hi (by rw [show i % (#[Value.int .i64 0] : Array Value).size = 0 from Nat.mod_one i]; rfl), fun h => by omega⟩⟩
def LstB (w : World) (g n B : Nat) (F : Nat → List Int) (k : Nat) : Prop := ∃ c : Array Value, w.heap[g]? = some (.cells c 23 (0, 0)) ∧ c.size = n ∧ ∀ j, j < n → ∃ v, c[j]? = some v ∧ (∃ A m cap, v = .slice A m cap) ∧ (j < k → OwN w B v (F j) ∧ v.ownBlock ≠ some g)
theorem LstB.fz {w : World} {g n B k : Nat} {F : Nat → List Int} (h : LstB w g n B F k) (i : Nat) : w.frozen? ⟨g, i, none⟩ = false := by
 obtain ⟨c, h1, _⟩ := h
 exact heap_thaw h1 i
theorem LstB.lt {w : World} {g n B k : Nat} {F : Nat → List Int} (h : LstB w g n B F k) : g < w.heap.size := by
 obtain ⟨c, h1, _⟩ := h
 exact heap_lt h1
theorem LstB.any {w : World} {g n B k i : Nat} {F : Nat → List Int} (h : LstB w g n B F k) (hi : i < n) : ∃ A m cap, w.cell? ⟨g, i, none⟩ = some (.slice A m cap) := by
 obtain ⟨c, h1, h2, h3⟩ := h
 obtain ⟨v, h4, ⟨A, m, cap, rfl⟩, _⟩ := h3 i hi
 exact ⟨A, m, cap, heap_cell h1 h4⟩
theorem LstB.at' {w : World} {g n B k i : Nat} {F : Nat → List Int} (h : LstB w g n B F k) (hi : i < n) (hk : i < k) : ∃ v, w.cell? ⟨g, i, none⟩ = some v ∧ OwN w B v (F i) := by
 obtain ⟨c, h1, h2, h3⟩ := h
 obtain ⟨v, h4, _, h5⟩ := h3 i hi
 exact ⟨v, heap_cell h1 h4, (h5 hk).1⟩
theorem LstB.below {w w' : World} {g n B k : Nat} {F : Nat → List Int} (h : LstB w g n B F k) (hb : Below w.heap.size w w') : LstB w' g n B F k := by
 obtain ⟨c, h1, h2, h3⟩ := h
 refine ⟨c, heap_keep h1 hb, h2, fun j hj => ?_⟩
 obtain ⟨v, h4, h5, h6⟩ := h3 j hj
 exact ⟨v, h4, h5, fun hk => ⟨own_below (h6 hk).1 hb, (h6 hk).2⟩⟩
theorem LstB.num {w : World} {g n B k s i : Nat} {F : Nat → List Int} (h : LstB w g n B F k) (hs : s < B) (hg : s ≠ g) (u : Value) : LstB (w.setCell ⟨s, i, none⟩ u) g n B F k := by
 obtain ⟨c, h1, h2, h3⟩ := h
 have hc := (Ch.refl (fun k => k = s) w).set (p := ⟨s, i, none⟩) (fun _ => rfl) u
 refine ⟨c, hc.keep h1 (fun e => hg e.symm), h2, fun j hj => ?_⟩
 obtain ⟨v, h4, h5, h6⟩ := h3 j hj
 exact ⟨v, h4, h5, fun hk => ⟨own_ch (h6 hk).1 hc (fun b hb e => by have := own_lt (h6 hk).1 b hb; omega), (h6 hk).2⟩⟩
theorem LstB.put {w : World} {g n B k : Nat} {F : Nat → List Int} (h : LstB w g n B F k) {v : Value} (hv : OwN w B v (F k)) (hg : v.ownBlock ≠ some g) : LstB (w.setCell ⟨g, k, none⟩ v) g n B F (k + 1) := by
 obtain ⟨c, h1, h2, h3⟩ := h
 have hc := (Ch.refl (fun k => k = g) w).set (p := ⟨g, k, none⟩) (fun _ => rfl) v
 have ho : ∀ {u : Value} {l : List Int}, OwN w B u l → u.ownBlock ≠ some g → OwN (w.setCell ⟨g, k, none⟩ v) B u l := fun hu hb => own_ch hu hc (fun b h e => hb (by rw [h, e]))
 refine ⟨_, heap_set h1 _, by simpa using h2, fun j hj => ?_⟩
 by_cases e : k = j
 ·subst e
  obtain ⟨A, cap, hs⟩ := own_shape hv
  exact ⟨v, by rw [Array.getElem?_setIfInBounds, if_pos rfl, if_pos (by omega)], ⟨A, _, cap, hs⟩, fun _ => ⟨ho hv hg, hg⟩⟩
 ·obtain ⟨y, h4, h5, h6⟩ := h3 j hj
  exact ⟨y, by rw [Array.getElem?_setIfInBounds, if_neg e]; exact h4, h5, fun h => ⟨ho (h6 (by omega)).1 (h6 (by omega)).2, (h6 (by omega)).2⟩⟩
theorem LstB.made {w : World} {g n B : Nat} {F : Nat → List Int} (h : w.heap[g]? = some (.cells (madeCells #[.slice none 0 0] n) 23 (0, 0))) : LstB w g n B F 0 :=
 ⟨_, h, by rw [size_madeCells], fun i hi => ⟨_, made_at0 _ _ _ _ hi (by rw [show i % (#[Value.slice none 0 0] : Array Value).size = 0 from Nat.mod_one i]; rfl), ⟨_, _, _, rfl⟩, fun h => by omega⟩⟩
theorem sizeWeb : (Try.prog.info? 63).map (·.size) = some 7 := by kernel_rfl
theorem seven_set {w : World} {b : Nat} {z0 z1 z2 z3 z4 z5 z6 : Value} {t : TypeId} {f : Nat × Nat} (h : w.heap[b]? = some (.cells #[z0, z1, z2, z3, z4, z5, z6] t f)) (v0 v1 v2 v3 v4 v5 v6 : Value) : (((((((w.setCell ⟨b, 0, none⟩ v0).setCell ⟨b, 1, none⟩ v1).setCell ⟨b, 2, none⟩ v2).setCell ⟨b, 3, none⟩ v3).setCell ⟨b, 4, none⟩ v4).setCell ⟨b, 5, none⟩ v5).setCell ⟨b, 6, none⟩ v6).heap[b]? = some (.cells #[v0, v1, v2, v3, v4, v5, v6] t f) := by
 have := heap_set (i := 6) (heap_set (i := 5) (heap_set (i := 4) (heap_set (i := 3) (heap_set (i := 2) (heap_set (i := 1) (heap_set (i := 0) h v0) v1) v2) v3) v4) v5) v6
 simpa using this
theorem LstB.ch {w w' : World} {g n B k : Nat} {F : Nat → List Int} {X : Nat → Prop} (h : LstB w g n B F k) (hc : Ch X w w') (hX : ∀ b, X b → b < B ∧ b ≠ g) : LstB w' g n B F k := by
 obtain ⟨c, h1, h2, h3⟩ := h
 refine ⟨c, hc.keep h1 (fun e => (hX g e).2 rfl), h2, fun j hj => ?_⟩
 obtain ⟨v, h4, h5, h6⟩ := h3 j hj
 exact ⟨v, h4, h5, fun hk => ⟨own_ch (h6 hk).1 hc (fun b hb e => by have h7 := own_lt (h6 hk).1 b hb; have h8 := (hX b e).1; omega), (h6 hk).2⟩⟩
theorem LstB.base {w : World} {g n B B' k : Nat} {F : Nat → List Int} (h : LstB w g n B F k) (hB : B' ≤ B) : LstB w g n B' F k := by
 obtain ⟨c, h1, h2, h3⟩ := h
 refine ⟨c, h1, h2, fun j hj => ?_⟩
 obtain ⟨v, h4, h5, h6⟩ := h3 j hj
 exact ⟨v, h4, h5, fun hk => ⟨own_base (h6 hk).1 hB, (h6 hk).2⟩⟩
set_option maxRecDepth 100000 in
theorem idx2 (a b : Int) (j : Nat) (x : Int) (h : [a, b][j]? = some x) : ∀ w', (Instr.index 105 (.agg #[vI a, vI b]) (vI (j : Int))).run Try.prog w' = .ok (vI x) w' := by
 rcases j with _ | _ | j
 ·simp at h; subst h; exact fun w' => show (Instr.index 105 (.agg #[vI a, vI b]) (vI 0)).run Try.prog w' = .ok (vI a) w' by kernel_rfl
 ·simp at h; subst h; exact fun w' => show (Instr.index 105 (.agg #[vI a, vI b]) (vI 1)).run Try.prog w' = .ok (vI b) w' by kernel_rfl
 ·simp at h
theorem three (w : World) (o1 o2 o3 : Obj) : (((w.alloc o1).alloc o2).alloc o3).drew.heap[w.heap.size]? = some o1 ∧ (((w.alloc o1).alloc o2).alloc o3).drew.heap[w.heap.size + 1]? = some o2 ∧ (((w.alloc o1).alloc o2).alloc o3).drew.heap[w.heap.size + 1 + 1]? = some o3 ∧ Below w.heap.size w (((w.alloc o1).alloc o2).alloc o3).drew :=
 ⟨(Below.heap_alloc _ _ _ (by simp; omega)).trans ((Below.heap_alloc _ _ _ (by simp)).trans (heap_alloc_new w _)), (Below.heap_alloc _ _ _ (by simp)).trans (heap_new2 w _ _), heap_new3 w _ _ _, Below.drewN' ((((Below.refl _ _).alloc (Nat.le_refl _) _).alloc (by simp) _).alloc (by simp; omega) _) 1⟩
theorem bel_drew {B : Nat} {w w' : World} (h : Below B w w') : Below B w w'.drew := Below.drewN' h 1
set_option maxHeartbeats 16000000 in
set_option maxRecDepth 100000 in
theorem webOf_any {P : Nat → Prop} (f : FuI) (fa fb fd fe : Value) (w : World) (h : Hid (FuV P w f fa fb fd fe)) (hcl : Hid (f.code.length * 96 ≤ 140737488355328)) :
  Calls Try.prog 32 #[fuL fa fb f.ret fd fe] w fun e w' => ∃ gn gs : Nat, e = .returned (.agg #[fa, fb, .int .i64 f.ret, fd, fe, .slice (some ⟨gn, 0, none⟩) f.code.length f.code.length, .slice (some ⟨gs, 0, none⟩) f.code.length f.code.length]) ∧ w.heap.size ≤ gn ∧ w.heap.size ≤ gs ∧ LstB w' gn f.code.length w.heap.size (fun i => nextL f i) f.code.length ∧ NumB w' gs f.code.length (strN f.rows) f.code.length ∧ Below w.heap.size w w' := by
 obtain ⟨FA, ac, hFA⟩ := h.out.a.shape
 subst hFA
 obtain ⟨FB, bc, hFB⟩ := h.out.b.shape
 subst hFB
 obtain ⟨D, dcap, hD⟩ := h.out.d.shape
 subst hD
 obtain ⟨E, ecap, hE⟩ := h.out.e.shape
 subst hE
 obtain ⟨n, hn⟩ : ∃ n, f.code.length = n := ⟨_, rfl⟩
 have HN := lhid hn
 have hd := h.out.d
 have hcl2 := hcl.out
 rw [hn] at hd hcl2 ⊢
 have hfd := h.out
 have HDD := lhid hd
 clear hn hd
 have hmk1 := make_lists n (by omega)
 have hmk2 := make_ints n (by omega)
 have hmk3 := make_bools n (by omega)
 go_enter Try.func32, Try.ntmps32
 go_upto_region 1 with fail
 generalize hw2 : World.alloc _ _ = w2
 have HZ2 : Hid (w2.heap[w.heap.size + 1]? = some (.cells #[.slice none 0 0, .slice none 0 0, .int .i64 0, .slice none 0 0, .slice none 0 0, .slice none 0 0, .slice none 0 0] 63 (0, 0))) := lhid (by rw [← hw2]; exact heap_new2 w _ _)
 have hF2 : FBox w2 w.heap.size (.slice FA f.regs.length ac) (.slice FB f.params.length bc) f.ret (.slice D n dcap) (.slice E f.rows.length ecap) := by rw [← hw2]; exact (Below.heap_alloc _ _ _ (by simp)).trans (heap_alloc_new w _)
 have hs2 : w2.heap.size = w.heap.size + 2 := by rw [← hw2]; simp
 have hb2 : Below w.heap.size w w2 := by rw [← hw2]; exact ((Below.refl _ _).alloc (Nat.le_refl _) _).alloc (by simp) _
 have HFK : Hid (∀ w', Below w2.heap.size w2 w' → w'.cell? ⟨w.heap.size, 0, none⟩ = some (.slice FA f.regs.length ac) ∧ w'.cell? ⟨w.heap.size, 1, none⟩ = some (.slice FB f.params.length bc) ∧ w'.cell? ⟨w.heap.size, 2, none⟩ = some (.int .i64 f.ret) ∧ w'.cell? ⟨w.heap.size, 3, none⟩ = some (.slice D n dcap) ∧ w'.cell? ⟨w.heap.size, 4, none⟩ = some (.slice E f.rows.length ecap)) := lhid fun w' hb => FBox.cells (heap_keep hF2 hb)
 have hFb := hF2
 have HB2 := lhid hb2
 have HS2 := lhid hs2
 clear hw2 hF2 hb2 hs2
 have HF2 : Hid (FBox w2 w.heap.size (.slice FA f.regs.length ac) (.slice FB f.params.length bc) f.ret (.slice D n dcap) (.slice E f.rows.length ecap)) := lhid hFb
 go_cut [3] from 11 (fun v3 wc => ∃ wb gn gs : Nat, v3 = .pointer (some ⟨wb, 0, none⟩) ∧ Hid (w2.heap.size ≤ wb ∧ w2.heap.size ≤ gn ∧ w2.heap.size ≤ gs ∧ wb ≠ gn ∧ wb ≠ gs ∧ gn ≠ gs) ∧ Hid (Below w2.heap.size w2 wc) ∧ Hid (wc.heap[wb]? = some (.cells #[.slice FA f.regs.length ac, .slice FB f.params.length bc, .int .i64 f.ret, .slice D n dcap, .slice E f.rows.length ecap, .slice (some ⟨gn, 0, none⟩) n n, .slice (some ⟨gs, 0, none⟩) n n] 63 (0, 0))) ∧ Hid (wc.heap[gn]? = some (.cells (madeCells #[.slice none 0 0] n) 23 (0, 0))) ∧ Hid (wc.heap[gs]? = some (.cells (madeCells #[.int .i64 0] n) 3 (0, 0))))
 case first =>
  go_region_held3 (fun w' => w'.cell? ⟨w.heap.size, 0, none⟩ = some (.slice FA f.regs.length ac) ∧ w'.cell? ⟨w.heap.size, 1, none⟩ = some (.slice FB f.params.length bc) ∧ w'.cell? ⟨w.heap.size, 2, none⟩ = some (.int .i64 f.ret) ∧ w'.cell? ⟨w.heap.size, 3, none⟩ = some (.slice D n dcap) ∧ w'.cell? ⟨w.heap.size, 4, none⟩ = some (.slice E f.rows.length ecap)) (first | exact (HFK.out _ (by first | exact bel_drew (Below.refl _ _) | exact bel_drew ((Below.refl _ _).alloc (Nat.le_refl _) _) | exact bel_drew (((Below.refl _ _).alloc (Nat.le_refl _) _).alloc (by simp) _) | exact bel_drew ((((Below.refl _ _).alloc (Nat.le_refl _) _).alloc (by simp) _).alloc (by simp; omega) _))) | exact (HFK.out _ (by first | exact bel_drew (Below.refl _ _) | exact bel_drew ((Below.refl _ _).alloc (Nat.le_refl _) _) | exact bel_drew (((Below.refl _ _).alloc (Nat.le_refl _) _).alloc (by simp) _) | exact bel_drew ((((Below.refl _ _).alloc (Nat.le_refl _) _).alloc (by simp) _).alloc (by simp; omega) _))).1 | exact (HFK.out _ (by first | exact bel_drew (Below.refl _ _) | exact bel_drew ((Below.refl _ _).alloc (Nat.le_refl _) _) | exact bel_drew (((Below.refl _ _).alloc (Nat.le_refl _) _).alloc (by simp) _) | exact bel_drew ((((Below.refl _ _).alloc (Nat.le_refl _) _).alloc (by simp) _).alloc (by simp; omega) _))).2.1 | exact (HFK.out _ (by first | exact bel_drew (Below.refl _ _) | exact bel_drew ((Below.refl _ _).alloc (Nat.le_refl _) _) | exact bel_drew (((Below.refl _ _).alloc (Nat.le_refl _) _).alloc (by simp) _) | exact bel_drew ((((Below.refl _ _).alloc (Nat.le_refl _) _).alloc (by simp) _).alloc (by simp; omega) _))).2.2.1 | exact (HFK.out _ (by first | exact bel_drew (Below.refl _ _) | exact bel_drew ((Below.refl _ _).alloc (Nat.le_refl _) _) | exact bel_drew (((Below.refl _ _).alloc (Nat.le_refl _) _).alloc (by simp) _) | exact bel_drew ((((Below.refl _ _).alloc (Nat.le_refl _) _).alloc (by simp) _).alloc (by simp; omega) _))).2.2.2.1 | exact (HFK.out _ (by first | exact bel_drew (Below.refl _ _) | exact bel_drew ((Below.refl _ _).alloc (Nat.le_refl _) _) | exact bel_drew (((Below.refl _ _).alloc (Nat.le_refl _) _).alloc (by simp) _) | exact bel_drew ((((Below.refl _ _).alloc (Nat.le_refl _) _).alloc (by simp) _).alloc (by simp; omega) _))).2.2.2.2) (fail)
  all_goals
   go_wp2_with fail
   go_meet
   case rel =>
    first
     | exact ⟨_, w2.heap.size, w2.heap.size + 1, rfl, lhid ⟨by omega, by omega, by omega, by omega, by omega, by omega⟩, lhid (three w2 _ _ _).2.2.2, lhid (by first | exact (three w2 _ _ _).1 | exact (three w2 _ _ _).2.1 | exact (three w2 _ _ _).2.2.1), lhid (by first | exact (three w2 _ _ _).1 | exact (three w2 _ _ _).2.1 | exact (three w2 _ _ _).2.2.1), lhid (by first | exact (three w2 _ _ _).1 | exact (three w2 _ _ _).2.1 | exact (three w2 _ _ _).2.2.1)⟩
     | exact ⟨_, w2.heap.size, w2.heap.size + 1 + 1, rfl, lhid ⟨by omega, by omega, by omega, by omega, by omega, by omega⟩, lhid (three w2 _ _ _).2.2.2, lhid (by first | exact (three w2 _ _ _).1 | exact (three w2 _ _ _).2.1 | exact (three w2 _ _ _).2.2.1), lhid (by first | exact (three w2 _ _ _).1 | exact (three w2 _ _ _).2.1 | exact (three w2 _ _ _).2.2.1), lhid (by first | exact (three w2 _ _ _).1 | exact (three w2 _ _ _).2.1 | exact (three w2 _ _ _).2.2.1)⟩
     | exact ⟨_, w2.heap.size + 1, w2.heap.size, rfl, lhid ⟨by omega, by omega, by omega, by omega, by omega, by omega⟩, lhid (three w2 _ _ _).2.2.2, lhid (by first | exact (three w2 _ _ _).1 | exact (three w2 _ _ _).2.1 | exact (three w2 _ _ _).2.2.1), lhid (by first | exact (three w2 _ _ _).1 | exact (three w2 _ _ _).2.1 | exact (three w2 _ _ _).2.2.1), lhid (by first | exact (three w2 _ _ _).1 | exact (three w2 _ _ _).2.1 | exact (three w2 _ _ _).2.2.1)⟩
     | exact ⟨_, w2.heap.size + 1, w2.heap.size + 1 + 1, rfl, lhid ⟨by omega, by omega, by omega, by omega, by omega, by omega⟩, lhid (three w2 _ _ _).2.2.2, lhid (by first | exact (three w2 _ _ _).1 | exact (three w2 _ _ _).2.1 | exact (three w2 _ _ _).2.2.1), lhid (by first | exact (three w2 _ _ _).1 | exact (three w2 _ _ _).2.1 | exact (three w2 _ _ _).2.2.1), lhid (by first | exact (three w2 _ _ _).1 | exact (three w2 _ _ _).2.1 | exact (three w2 _ _ _).2.2.1)⟩
     | exact ⟨_, w2.heap.size + 1 + 1, w2.heap.size, rfl, lhid ⟨by omega, by omega, by omega, by omega, by omega, by omega⟩, lhid (three w2 _ _ _).2.2.2, lhid (by first | exact (three w2 _ _ _).1 | exact (three w2 _ _ _).2.1 | exact (three w2 _ _ _).2.2.1), lhid (by first | exact (three w2 _ _ _).1 | exact (three w2 _ _ _).2.1 | exact (three w2 _ _ _).2.2.1), lhid (by first | exact (three w2 _ _ _).1 | exact (three w2 _ _ _).2.1 | exact (three w2 _ _ _).2.2.1)⟩
     | exact ⟨_, w2.heap.size + 1 + 1, w2.heap.size + 1, rfl, lhid ⟨by omega, by omega, by omega, by omega, by omega, by omega⟩, lhid (three w2 _ _ _).2.2.2, lhid (by first | exact (three w2 _ _ _).1 | exact (three w2 _ _ _).2.1 | exact (three w2 _ _ _).2.2.1), lhid (by first | exact (three w2 _ _ _).1 | exact (three w2 _ _ _).2.1 | exact (three w2 _ _ _).2.2.1), lhid (by first | exact (three w2 _ _ _).1 | exact (three w2 _ _ _).2.1 | exact (three w2 _ _ _).2.2.1)⟩
 case rest =>
  obtain ⟨wb, gn, gs, hv3, HNE, HBC, HWB, HGN, HGS⟩ := hcut
  subst hv3
  have HFc : Hid (FBox wc w.heap.size (.slice FA f.regs.length ac) (.slice FB f.params.length bc) f.ret (.slice D n dcap) (.slice E f.rows.length ecap)) := lhid (heap_keep HF2.out HBC.out)
  obtain ⟨p0, p1, p2, p3, p4⟩ := HFc.out.cells
  obtain ⟨ne1, ne2, ne3, ne4, ne5, ne6⟩ := HNE.out
  obtain ⟨wd, hwd⟩ : ∃ wd, wc.alloc (.cells (madeCells #[.bool false] n) 4) = wd := ⟨_, rfl⟩
  obtain ⟨C, hC⟩ : ∃ C, wc.heap.size = C := ⟨_, rfl⟩
  have hmk4 : (Instr.makeSlice 68 (.int .i64 (n : Int)) (.int .i64 (n : Int))).run Try.prog wc = .ok (.slice (some ⟨C, 0, none⟩) n n) wd := by rw [hmk3 wc, hwd, hC]
  have hbd : Below wc.heap.size wc wd := by rw [← hwd]; exact (Below.refl _ _).alloc (Nat.le_refl _) _
  have HMd : Hid (Marks wd C n (atL (cutL f.rows 0))) := lhid (by rw [← hwd, ← hC]; exact Marks.made wc n _ rfl _ (by intro i h; simp [atL, cutL] at h) n rfl)
  have hsd : wd.heap.size = C + 1 := by rw [← hwd, ← hC]; simp
  have hFd : FBox wd w.heap.size (.slice FA f.regs.length ac) (.slice FB f.params.length bc) f.ret (.slice D n dcap) (.slice E f.rows.length ecap) := heap_keep HFc.out hbd
  have HFd := lhid hFd
  obtain ⟨q0, q1, q2, q3, q4⟩ := hFd.cells
  have hwbC : wb < C := by rw [← hC]; exact heap_lt HWB.out
  have hgnC : gn < C := by rw [← hC]; exact heap_lt HGN.out
  have hgsC : gs < C := by rw [← hC]; exact heap_lt HGS.out
  have hs2 := HS2.out
  have hF0C : w.heap.size < C := by have := HBC.out.size; omega
  have HWBd : Hid (wd.heap[wb]? = some (.cells #[.slice FA f.regs.length ac, .slice FB f.params.length bc, .int .i64 f.ret, .slice D n dcap, .slice E f.rows.length ecap, .slice (some ⟨gn, 0, none⟩) n n, .slice (some ⟨gs, 0, none⟩) n n] 63 (0, 0))) := lhid (heap_keep HWB.out hbd)
  have HNd : Hid (LstB wd gn n w.heap.size (fun i => nextL f i) 0) := lhid (LstB.made (heap_keep HGN.out hbd))
  have HSd : Hid (NumB wd gs n (strN f.rows) 0) := lhid (NumB.made (heap_keep HGS.out hbd))
  have hbw : Below w.heap.size w wc := HB2.out.trans (HBC.out.mono (by omega))
  have HZd : Hid (wd.heap[w.heap.size + 1]? = some (.cells #[.slice none 0 0, .slice none 0 0, .int .i64 0, .slice none 0 0, .slice none 0 0, .slice none 0 0, .slice none 0 0] 63 (0, 0))) := lhid (heap_keep (heap_keep HZ2.out HBC.out) hbd)
  have HBd : Hid (Below w.heap.size w wd) := lhid (hbw.trans (hbd.mono hbw.size))
  have HNUM : Hid (w.heap.size + 1 < C ∧ w.heap.size + 1 < wb ∧ w.heap.size + 1 < gn ∧ w.heap.size + 1 < gs ∧ wb < C ∧ gn < C ∧ gs < C ∧ wb ≠ gn ∧ wb ≠ gs ∧ gn ≠ gs ∧ wd.heap.size = C + 1) := lhid ⟨by omega, by omega, by omega, by omega, hwbC, hgnC, hgsC, ne4, ne5, ne6, hsd⟩
  clear hwd hbd hFd hwbC hgnC hgsC hs2 hF0C hbw ne1 ne2 ne3 ne4 ne5 ne6 hsd HNE HBC HWB HGN HGS HFc HF2 HFK HB2 HS2 HZ2 hFb hmk1 hmk2 hmk3 hC
  go_wp2_with fail
  go_loopg [28] f.rows.length (fun g i wr => ∃ k : Nat, g = f.rows.length - k ∧ i = .int .i64 k ∧ k ≤ f.rows.length ∧ Hid (Ch (fun b => b = C) wd wr) ∧ Hid (Marks wr C n (atL (cutL f.rows k))))
  case atStart => exact ⟨0, rfl, rfl, Nat.zero_le _, lhid (Ch.refl _ _), HMd⟩
  case round =>
   clear HMd p0 p1 p2 p3 p4 hmk4 q0 q1 q2 q3 q4
   obtain ⟨k, rfl, rfl, hk, HC, HM⟩ := hrel
   have HFr : Hid (FBox wr w.heap.size (.slice FA f.regs.length ac) (.slice FB f.params.length bc) f.ret (.slice D n dcap) (.slice E f.rows.length ecap)) := lhid (HC.out.keep HFd.out (by have := HNUM.out.1; omega))
   by_cases hlt : k < f.rows.length
   ·obtain ⟨r, hr⟩ : ∃ r, f.rows[k]? = some r := ⟨_, List.getElem?_eq_getElem hlt⟩
    obtain ⟨eg, eo, hE2, c0, c1, c2, c3⟩ := rw_cells h.out.e hr
    subst hE2
    have heg : eg < w.heap.size := cell_lt c0
    have kc : ∀ {p : Addr} {u : Value}, p.block < w.heap.size → w.cell? p = some u → wr.cell? p = some u := fun {p u} hp hq => (World.cell?_of_block ((HC.out.block p.block (by have := HBd.out.size; omega) (by have := HNUM.out.1; omega)).trans (HBd.out.block p.block hp))).trans hq
    replace c0 := kc heg c0
    replace c1 := kc heg c1
    replace c2 := kc heg c2
    replace c3 := kc heg c3
    have hgr : eg < wr.heap.size := cell_lt c0
    have HR := lhid hr
    have k3 : (k : Int) < f.rows.length := by omega
    have hwk : wrap64 ((k : Int) + 1) = ((k + 1 : Nat) : Int) := by rw [IntWalk.wrap64_in _ (by have := h.out.e.len; omega)]; omega
    clear hr kc heg
    obtain ⟨p0, p1, p2, p3, p4⟩ := HFr.out.cells
    go_wp2_with fail
    generalize hw3 : World.alloc _ _ = w3
    have hb3 : Below wr.heap.size wr w3 := by rw [← hw3]; exact (Below.refl _ _).alloc (Nat.le_refl _) _
    have HC3 := lhid (HC.out.below hb3)
    have HM3 := lhid (HM.out.below hb3)
    have HF3 : Hid (FBox w3 w.heap.size (.slice FA f.regs.length ac) (.slice FB f.params.length bc) f.ret (.slice D n dcap) (.slice (some ⟨eg, eo, none⟩) f.rows.length ecap)) := lhid (heap_keep HFr.out hb3)
    have HCN : Hid (C < w3.heap.size) := lhid HM3.out.lt
    clear hw3 hb3 c0 c1 c2 c3 p0 p1 p2 p3 p4 HFr HC HM
    go_loopg [37] 2 (fun g i wq => ∃ j : Nat, g = 2 - j ∧ i = .int .i64 j ∧ j ≤ 2 ∧ Hid (Ch (fun b => b = C) wd wq) ∧ Hid (Marks wq C n (atL (cutL f.rows k ++ [r.fr, r.too].take j))) ∧ Hid (FBox wq w.heap.size (.slice FA f.regs.length ac) (.slice FB f.params.length bc) f.ret (.slice D n dcap) (.slice (some ⟨eg, eo, none⟩) f.rows.length ecap)))
    case atStart => exact ⟨0, rfl, rfl, by omega, HC3, lhid (by rw [List.take_zero, List.append_nil]; exact HM3.out), HF3⟩
    case round =>
     clear HC3 HM3 HF3
     obtain ⟨j, rfl, rfl, hj, HC, HM, HF⟩ := hrel
     by_cases hjt : j < 2
     ·obtain ⟨x, hx⟩ : ∃ x, [r.fr, r.too][j]? = some x := ⟨_, List.getElem?_eq_getElem (by simpa using hjt)⟩
      have hidx := idx2 r.fr r.too j x hx
      have HX := lhid hx
      have k4 : (j : Int) < 2 := by omega
      have hwj : wrap64 ((j : Int) + 1) = ((j + 1 : Nat) : Int) := by rw [IntWalk.wrap64_in _ (by omega)]; omega
      clear hx
      obtain ⟨p0, p1, p2, p3, p4⟩ := HF.out.cells
      by_cases hp : 0 ≤ x ∧ x < n
      ·have HP : Hid ((decide (0 ≤ x) && decide (x < (n : Int))) = true) := lhid (by simp [hp.1, hp.2])
       obtain ⟨y, rfl⟩ : ∃ y : Nat, x = y := ⟨x.toNat, by omega⟩
       have hyn : (y : Int) < n := hp.2
       clear hp
       go_wp2_with fail
       with_reducible refine (isPlace_w _ _ f.ret D n dcap _ _ true _ HP).mono ?_
       rintro e w4 ⟨rfl, hb⟩
       have HC4 := lhid (HC.out.below hb)
       have HM4 := lhid (HM.out.below hb)
       have HF4 : Hid (FBox w4 w.heap.size (.slice FA f.regs.length ac) (.slice FB f.params.length bc) f.ret (.slice D n dcap) (.slice (some ⟨eg, eo, none⟩) f.rows.length ecap)) := lhid (heap_keep HF.out hb)
       obtain ⟨b0, hb0, _⟩ := HM4.out.cell (show y < n by omega)
       have hz0 := HM4.out.fz y
       clear hb p0 p1 p2 p3 p4
       go_wp2_with fail
       go_roundg (2 - (j + 1))
       case measure => omega
       case rel =>
        refine ⟨j + 1, rfl, by first | rfl | rw [hwj], by omega, lhid (HC4.out.set (fun _ => rfl) _), lhid (HM4.out.set (by omega) fun i => ?_), lhid (((Ch.refl (fun b => b = C) w4).set (p := ⟨C, y, none⟩) (fun _ => rfl) _).keep HF4.out (by have := HNUM.out.1; omega))⟩
        rw [List.take_add_one, HX.out]
        unfold atL
        simp only [Option.toList_some, List.mem_append, List.mem_singleton]
        constructor
        ·rintro (h | h | h)
         ·exact .inl (.inl h)
         ·exact .inl (.inr h)
         ·exact .inr (by omega)
        ·rintro ((h | h) | h)
         ·exact .inl h
         ·exact .inr (.inl h)
         ·exact .inr (.inr (by omega))
      ·have HP : Hid ((decide (0 ≤ x) && decide (x < (n : Int))) = false) := lhid (by rw [Bool.and_eq_false_iff, decide_eq_false_iff_not, decide_eq_false_iff_not]; omega)
       have HO := lhid hp
       clear hp
       go_wp2_with fail
       with_reducible refine (isPlace_w _ _ f.ret D n dcap _ _ false _ HP).mono ?_
       rintro e w4 ⟨rfl, hb⟩
       have HC4 := lhid (HC.out.below hb)
       have HM4 := lhid (HM.out.below hb)
       have HF4 : Hid (FBox w4 w.heap.size (.slice FA f.regs.length ac) (.slice FB f.params.length bc) f.ret (.slice D n dcap) (.slice (some ⟨eg, eo, none⟩) f.rows.length ecap)) := lhid (heap_keep HF.out hb)
       clear hb p0 p1 p2 p3 p4
       go_wp2_with fail
       go_roundg (2 - (j + 1))
       case measure => omega
       case rel => exact ⟨j + 1, rfl, by first | rfl | rw [hwj], by omega, HC4, lhid (by rw [List.take_add_one, HX.out, ← List.append_assoc]; exact atL_out HM4.out HO.out), HF4⟩
     ·have k4 : ¬ (j : Int) < 2 := by omega
      have hm := HM.out
      rw [List.take_of_length_le (by simp; omega), ← cutL_snoc HR.out] at hm
      have HM2 := lhid hm
      clear hm
      go_wp2_with fail
      go_roundg (f.rows.length - (k + 1))
      case measure => omega
      case rel => exact ⟨k + 1, rfl, by first | rfl | rw [hwk], by omega, HC, HM2⟩
   ·have k3 : ¬ (k : Int) < f.rows.length := by omega
    have hke : k = f.rows.length := by omega
    subst hke
    obtain ⟨p0, p1, p2, p3, p4⟩ := HFr.out.cells
    obtain ⟨we, hwe⟩ : ∃ x, x = wr := ⟨_, rfl⟩
    subst hwe
    have HNe : Hid (LstB we gn n C (fun i => nextL f i) 0) := lhid (by
     obtain ⟨c, h1, h2, h3⟩ := HNd.out
     refine ⟨c, HC.out.keep h1 (by have := HNUM.out; omega), h2, fun j hj => ?_⟩
     obtain ⟨v, h4, h5, h6⟩ := h3 j hj
     exact ⟨v, h4, h5, fun h => by omega⟩)
    have HSe : Hid (NumB we gs n (strN f.rows) 0) := lhid (HSd.out.of (HC.out.block gs (by have := HNUM.out; omega) (by have := HNUM.out; omega)))
    have HZe : Hid (we.heap[w.heap.size + 1]? = some (.cells #[.slice none 0 0, .slice none 0 0, .int .i64 0, .slice none 0 0, .slice none 0 0, .slice none 0 0, .slice none 0 0] 63 (0, 0))) := lhid (HC.out.keep HZd.out (by have := HNUM.out; omega))
    have HWe : Hid (we.heap[wb]? = some (.cells #[.slice FA f.regs.length ac, .slice FB f.params.length bc, .int .i64 f.ret, .slice D n dcap, .slice E f.rows.length ecap, .slice (some ⟨gn, 0, none⟩) n n, .slice (some ⟨gs, 0, none⟩) n n] 63 (0, 0))) := lhid (HC.out.keep HWBd.out (by have := HNUM.out; omega))
    have HBe : Hid (Below w.heap.size w we) := lhid (HBd.out.trans (HC.out.to (by have := HNUM.out; omega) (fun k hk => by have := HNUM.out; omega)))
    have hes : C < we.heap.size := HM.out.lt
    have HES := lhid hes
    clear HNd HSd HWBd HBd HFd hlt hk hes
    go_wp2_with fail
    go_loopg [9, 51] n (fun g s i wr => ∃ k : Nat, g = n - k ∧ i = .int .i64 k ∧ k ≤ n ∧ s = .int .i64 (strB f.rows k) ∧ Hid (Ch (fun b => b = gn ∨ b = gs) we wr) ∧ Hid (LstB wr gn n C (fun i => nextL f i) k) ∧ Hid (NumB wr gs n (strN f.rows) k))
    case atStart => exact ⟨0, rfl, rfl, Nat.zero_le _, rfl, lhid (Ch.refl _ _), HNe, HSe⟩
    case round =>
     clear HNe HSe p0 p1 p2 p3 p4
     obtain ⟨k, rfl, rfl, hk, rfl, HC3, HL3, HS3⟩ := hrel
     have HF3 : Hid (FBox wr w.heap.size (.slice FA f.regs.length ac) (.slice FB f.params.length bc) f.ret (.slice D n dcap) (.slice E f.rows.length ecap)) := lhid (HC3.out.keep HFr.out (by have := HNUM.out; omega))
     have HW3 : Hid (wr.heap[wb]? = some (.cells #[.slice FA f.regs.length ac, .slice FB f.params.length bc, .int .i64 f.ret, .slice D n dcap, .slice E f.rows.length ecap, .slice (some ⟨gn, 0, none⟩) n n, .slice (some ⟨gs, 0, none⟩) n n] 63 (0, 0))) := lhid (HC3.out.keep HWe.out (by have := HNUM.out; omega))
     by_cases hlt : k < n
     ·have hM3 : Marks wr C n (atL (cutL f.rows f.rows.length)) := HM.out.of (HC3.out.block C HES.out (by have := HNUM.out; omega))
      obtain ⟨bb, hb0, hb1⟩ := hM3.cell hlt
      have hbb : cutB f.rows k = bb := by
       rw [cutL_all] at hb1
       cases bb with
       | true => exact hb1.1 rfl
       | false => cases hc : cutB f.rows k with
        | false => rfl
        | true => exact absurd (hb1.2 hc) (by decide)
      have hst := strN_step f.rows k
      rw [hbb] at hst
      have HST := lhid hst
      obtain ⟨t, ht⟩ : ∃ t, strB f.rows k = t := ⟨_, rfl⟩
      have htb := strB_at f.rows k
      rw [ht] at htb
      have HT := lhid ht
      rw [ht]
      have htw : wrap64 (t + 1) = t + 1 := IntWalk.wrap64_in _ (by have := hcl.out; have := HDD.out.len; omega)
      have k3 : (k : Int) < n := by omega
      have hwk : wrap64 ((k : Int) + 1) = ((k + 1 : Nat) : Int) := by rw [IntWalk.wrap64_in _ (by have := hcl.out; have := HDD.out.len; omega)]; omega
      have s1 := heap_cell (i := 6) HW3.out rfl
      obtain ⟨z1, e1⟩ := HS3.out.any hlt
      have z0 := HS3.out.fz k
      have gl := HS3.out.lt
      clear hst hb1 hbb hM3 ht
      cases bb with
      | true =>
       have HU : Hid (t + 1 = strN f.rows k) := lhid (by rw [HST.out, ← HT.out]; simp)
       have HSn := lhid (HS3.out.put HU.out)
       go_upto_region 20 with fail
       generalize hw5 : World.setCell _ _ _ = w5
       have hc5 : Ch (fun b => b = gn ∨ b = gs) we w5 := by rw [← hw5]; exact HC3.out.set (fun _ => .inr rfl) _
       have HS5 : Hid (NumB w5 gs n (strN f.rows) (k + 1)) := lhid (by rw [← hw5]; exact HSn.out)
       have HL5 : Hid (LstB w5 gn n C (fun i => nextL f i) k) := lhid (by rw [← hw5]; exact HL3.out.num (by have := HNUM.out; omega) (by have := HNUM.out; omega) _)
       have hw5s : C < w5.heap.size := by have := hc5.size; have := HES.out; omega
       have hb5 : Below w.heap.size w w5 := HBe.out.trans (hc5.to (by have := HNUM.out; have := HES.out; omega) (fun k hk => by have := HNUM.out; rcases hk with e | e <;> omega))
       have hF5 : FBox w5 w.heap.size (.slice FA f.regs.length ac) (.slice FB f.params.length bc) f.ret (.slice D n dcap) (.slice E f.rows.length ecap) := hc5.keep HFr.out (by have := HNUM.out; omega)
       have hW5 : WBox w5 wb (.slice FA f.regs.length ac) (.slice FB f.params.length bc) f.ret (.slice D n dcap) (.slice E f.rows.length ecap) (.slice (some ⟨gn, 0, none⟩) n n) (.slice (some ⟨gs, 0, none⟩) n n) := hc5.keep HWe.out (by have := HNUM.out; omega)
       have HFU : Hid (FuV P w5.drew f (.slice FA f.regs.length ac) (.slice FB f.params.length bc) (.slice D n dcap) (.slice E f.rows.length ecap)) := lhid (by have h9 := h.out; rw [HN.out] at h9; exact h9.below (bel_drew hb5))
       have HFK : Hid (∀ w', Ch (fun b => b = gn) w5 w' → w'.cell? ⟨wb, 5, none⟩ = some (.slice (some ⟨gn, 0, none⟩) n n) ∧ w'.cell? ⟨w.heap.size, 0, none⟩ = some (.slice FA f.regs.length ac) ∧ w'.cell? ⟨w.heap.size, 1, none⟩ = some (.slice FB f.params.length bc) ∧ w'.cell? ⟨w.heap.size, 2, none⟩ = some (.int .i64 f.ret) ∧ w'.cell? ⟨w.heap.size, 3, none⟩ = some (.slice D n dcap) ∧ w'.cell? ⟨w.heap.size, 4, none⟩ = some (.slice E f.rows.length ecap)) := lhid fun w' hb => ⟨heap_cell (i := 5) (hb.keep hW5 (by have := HNUM.out; omega)) rfl, FBox.cells (hb.keep hF5 (by have := HNUM.out; omega))⟩
       have HC5 := lhid hc5
       have HN5 := lhid hw5s
       clear hw5 hb5 hF5 hW5 hc5 HSn HS3 HL3 HC3 HF3 HW3 s1 e1 z0 gl hb0 hw5s
       go_region_held3 (fun w' => w'.cell? ⟨wb, 5, none⟩ = some (.slice (some ⟨gn, 0, none⟩) n n) ∧ w'.cell? ⟨w.heap.size, 0, none⟩ = some (.slice FA f.regs.length ac) ∧ w'.cell? ⟨w.heap.size, 1, none⟩ = some (.slice FB f.params.length bc) ∧ w'.cell? ⟨w.heap.size, 2, none⟩ = some (.int .i64 f.ret) ∧ w'.cell? ⟨w.heap.size, 3, none⟩ = some (.slice D n dcap) ∧ w'.cell? ⟨w.heap.size, 4, none⟩ = some (.slice E f.rows.length ecap)) (first | exact HS6.out | exact HS6.out.1 | exact HS6.out.2.1 | exact HS6.out.2.2.1 | exact HS6.out.2.2.2.1 | exact HS6.out.2.2.2.2.1 | exact HS6.out.2.2.2.2.2 | exact (HFK.out _ (by first | with_reducible exact (Ch.refl _ _).drew | with_reducible exact Ch.of hb6)) | exact (HFK.out _ (by first | with_reducible exact (Ch.refl _ _).drew | with_reducible exact Ch.of hb6)).1 | exact (HFK.out _ (by first | with_reducible exact (Ch.refl _ _).drew | with_reducible exact Ch.of hb6)).2.1 | exact (HFK.out _ (by first | with_reducible exact (Ch.refl _ _).drew | with_reducible exact Ch.of hb6)).2.2.1 | exact (HFK.out _ (by first | with_reducible exact (Ch.refl _ _).drew | with_reducible exact Ch.of hb6)).2.2.2.1 | exact (HFK.out _ (by first | with_reducible exact (Ch.refl _ _).drew | with_reducible exact Ch.of hb6)).2.2.2.2.1 | exact (HFK.out _ (by first | with_reducible exact (Ch.refl _ _).drew | with_reducible exact Ch.of hb6)).2.2.2.2.2)
        (first | ((with_reducible refine (next_any f _ _ _ _ (k : Int) _ HFU).mono ?_); rintro e w6 ⟨v, rfl, hov, hb0⟩; obtain ⟨NA, ncap, hv⟩ := own_shape hov; subst hv; have hb6 : Below w5.heap.size w5 w6 := ⟨hb0.os, hb0.tape, hb0.output, hb0.size, hb0.block⟩; have hL6 := HL5.out.below hb6; obtain ⟨A1, m1, cap1, e6⟩ := hL6.any hlt; have z6 := hL6.fz k; have l6 := hL6.lt; have HL6 := lhid hL6; have HOV := lhid hov; have HB6 := lhid hb6; have HS6 := lhid (HFK.out (w6.setCell ⟨gn, k, none⟩ (.slice NA (nextL f k).length ncap)) (Ch.set (X := fun b => b = gn) (p := ⟨gn, k, none⟩) (Ch.of hb6) (fun _ => rfl) _)); clear hL6 hb0 hov))
       all_goals
        have HCr : Hid (Ch (fun b => b = gn ∨ b = gs) we (w6.setCell ⟨gn, k, none⟩ (.slice NA (nextL f k).length ncap))) := lhid ((HC5.out.below HB6.out).set (fun _ => .inl rfl) _)
        have HLr : Hid (LstB (w6.setCell ⟨gn, k, none⟩ (.slice NA (nextL f k).length ncap)) gn n C (fun i => nextL f i) (k + 1)) := lhid (HL6.out.put (own_base HOV.out (Nat.le_of_lt HN5.out)) (fun e => by have h1 := own_lt HOV.out gn e; have h2 := HNUM.out; have h3 := HN5.out; have h4 : w5.drew.heap.size = w5.heap.size := rfl; omega))
        have HSr : Hid (NumB (w6.setCell ⟨gn, k, none⟩ (.slice NA (nextL f k).length ncap)) gs n (strN f.rows) (k + 1)) := lhid ((HS5.out.of (HB6.out.block gs HS5.out.lt)).of (((Ch.refl (fun b => b = gn) w6).set (p := ⟨gn, k, none⟩) (fun _ => rfl) _).block gs (Nat.lt_of_lt_of_le HS5.out.lt HB6.out.size) (by have := HNUM.out; omega)))
        clear HC5 HL6 HOV HS5 HB6 HS6 HL5 e6 z6 l6 HFK HFU
        go_wp2_with fail
        go_roundg (n - (k + 1))
        case measure => omega
        case rel => exact ⟨k + 1, rfl, by first | rfl | rw [hwk], by omega, by first | rw [show strB f.rows (k + 1) = strN f.rows k from rfl, ← HU.out] | rw [show strB f.rows (k + 1) = strN f.rows k from rfl, HU.out], HCr, HLr, HSr⟩
      | false =>
       have HU : Hid (t = strN f.rows k) := lhid (by rw [HST.out, ← HT.out]; simp)
       have HSn := lhid (HS3.out.put HU.out)
       go_upto_region 20 with fail
       generalize hw5 : World.setCell _ _ _ = w5
       have hc5 : Ch (fun b => b = gn ∨ b = gs) we w5 := by rw [← hw5]; exact HC3.out.set (fun _ => .inr rfl) _
       have HS5 : Hid (NumB w5 gs n (strN f.rows) (k + 1)) := lhid (by rw [← hw5]; exact HSn.out)
       have HL5 : Hid (LstB w5 gn n C (fun i => nextL f i) k) := lhid (by rw [← hw5]; exact HL3.out.num (by have := HNUM.out; omega) (by have := HNUM.out; omega) _)
       have hw5s : C < w5.heap.size := by have := hc5.size; have := HES.out; omega
       have hb5 : Below w.heap.size w w5 := HBe.out.trans (hc5.to (by have := HNUM.out; have := HES.out; omega) (fun k hk => by have := HNUM.out; rcases hk with e | e <;> omega))
       have hF5 : FBox w5 w.heap.size (.slice FA f.regs.length ac) (.slice FB f.params.length bc) f.ret (.slice D n dcap) (.slice E f.rows.length ecap) := hc5.keep HFr.out (by have := HNUM.out; omega)
       have hW5 : WBox w5 wb (.slice FA f.regs.length ac) (.slice FB f.params.length bc) f.ret (.slice D n dcap) (.slice E f.rows.length ecap) (.slice (some ⟨gn, 0, none⟩) n n) (.slice (some ⟨gs, 0, none⟩) n n) := hc5.keep HWe.out (by have := HNUM.out; omega)
       have HFU : Hid (FuV P w5.drew f (.slice FA f.regs.length ac) (.slice FB f.params.length bc) (.slice D n dcap) (.slice E f.rows.length ecap)) := lhid (by have h9 := h.out; rw [HN.out] at h9; exact h9.below (bel_drew hb5))
       have HFK : Hid (∀ w', Ch (fun b => b = gn) w5 w' → w'.cell? ⟨wb, 5, none⟩ = some (.slice (some ⟨gn, 0, none⟩) n n) ∧ w'.cell? ⟨w.heap.size, 0, none⟩ = some (.slice FA f.regs.length ac) ∧ w'.cell? ⟨w.heap.size, 1, none⟩ = some (.slice FB f.params.length bc) ∧ w'.cell? ⟨w.heap.size, 2, none⟩ = some (.int .i64 f.ret) ∧ w'.cell? ⟨w.heap.size, 3, none⟩ = some (.slice D n dcap) ∧ w'.cell? ⟨w.heap.size, 4, none⟩ = some (.slice E f.rows.length ecap)) := lhid fun w' hb => ⟨heap_cell (i := 5) (hb.keep hW5 (by have := HNUM.out; omega)) rfl, FBox.cells (hb.keep hF5 (by have := HNUM.out; omega))⟩
       have HC5 := lhid hc5
       have HN5 := lhid hw5s
       clear hw5 hb5 hF5 hW5 hc5 HSn HS3 HL3 HC3 HF3 HW3 s1 e1 z0 gl hb0 hw5s
       go_region_held3 (fun w' => w'.cell? ⟨wb, 5, none⟩ = some (.slice (some ⟨gn, 0, none⟩) n n) ∧ w'.cell? ⟨w.heap.size, 0, none⟩ = some (.slice FA f.regs.length ac) ∧ w'.cell? ⟨w.heap.size, 1, none⟩ = some (.slice FB f.params.length bc) ∧ w'.cell? ⟨w.heap.size, 2, none⟩ = some (.int .i64 f.ret) ∧ w'.cell? ⟨w.heap.size, 3, none⟩ = some (.slice D n dcap) ∧ w'.cell? ⟨w.heap.size, 4, none⟩ = some (.slice E f.rows.length ecap)) (first | exact HS6.out | exact HS6.out.1 | exact HS6.out.2.1 | exact HS6.out.2.2.1 | exact HS6.out.2.2.2.1 | exact HS6.out.2.2.2.2.1 | exact HS6.out.2.2.2.2.2 | exact (HFK.out _ (by first | with_reducible exact (Ch.refl _ _).drew | with_reducible exact Ch.of hb6)) | exact (HFK.out _ (by first | with_reducible exact (Ch.refl _ _).drew | with_reducible exact Ch.of hb6)).1 | exact (HFK.out _ (by first | with_reducible exact (Ch.refl _ _).drew | with_reducible exact Ch.of hb6)).2.1 | exact (HFK.out _ (by first | with_reducible exact (Ch.refl _ _).drew | with_reducible exact Ch.of hb6)).2.2.1 | exact (HFK.out _ (by first | with_reducible exact (Ch.refl _ _).drew | with_reducible exact Ch.of hb6)).2.2.2.1 | exact (HFK.out _ (by first | with_reducible exact (Ch.refl _ _).drew | with_reducible exact Ch.of hb6)).2.2.2.2.1 | exact (HFK.out _ (by first | with_reducible exact (Ch.refl _ _).drew | with_reducible exact Ch.of hb6)).2.2.2.2.2)
        (first | ((with_reducible refine (next_any f _ _ _ _ (k : Int) _ HFU).mono ?_); rintro e w6 ⟨v, rfl, hov, hb0⟩; obtain ⟨NA, ncap, hv⟩ := own_shape hov; subst hv; have hb6 : Below w5.heap.size w5 w6 := ⟨hb0.os, hb0.tape, hb0.output, hb0.size, hb0.block⟩; have hL6 := HL5.out.below hb6; obtain ⟨A1, m1, cap1, e6⟩ := hL6.any hlt; have z6 := hL6.fz k; have l6 := hL6.lt; have HL6 := lhid hL6; have HOV := lhid hov; have HB6 := lhid hb6; have HS6 := lhid (HFK.out (w6.setCell ⟨gn, k, none⟩ (.slice NA (nextL f k).length ncap)) (Ch.set (X := fun b => b = gn) (p := ⟨gn, k, none⟩) (Ch.of hb6) (fun _ => rfl) _)); clear hL6 hb0 hov))
       all_goals
        have HCr : Hid (Ch (fun b => b = gn ∨ b = gs) we (w6.setCell ⟨gn, k, none⟩ (.slice NA (nextL f k).length ncap))) := lhid ((HC5.out.below HB6.out).set (fun _ => .inl rfl) _)
        have HLr : Hid (LstB (w6.setCell ⟨gn, k, none⟩ (.slice NA (nextL f k).length ncap)) gn n C (fun i => nextL f i) (k + 1)) := lhid (HL6.out.put (own_base HOV.out (Nat.le_of_lt HN5.out)) (fun e => by have h1 := own_lt HOV.out gn e; have h2 := HNUM.out; have h3 := HN5.out; have h4 : w5.drew.heap.size = w5.heap.size := rfl; omega))
        have HSr : Hid (NumB (w6.setCell ⟨gn, k, none⟩ (.slice NA (nextL f k).length ncap)) gs n (strN f.rows) (k + 1)) := lhid ((HS5.out.of (HB6.out.block gs HS5.out.lt)).of (((Ch.refl (fun b => b = gn) w6).set (p := ⟨gn, k, none⟩) (fun _ => rfl) _).block gs (Nat.lt_of_lt_of_le HS5.out.lt HB6.out.size) (by have := HNUM.out; omega)))
        clear HC5 HL6 HOV HS5 HB6 HS6 HL5 e6 z6 l6 HFK HFU
        go_wp2_with fail
        go_roundg (n - (k + 1))
        case measure => omega
        case rel => exact ⟨k + 1, rfl, by first | rfl | rw [hwk], by omega, by first | rw [show strB f.rows (k + 1) = strN f.rows k from rfl, ← HU.out] | rw [show strB f.rows (k + 1) = strN f.rows k from rfl, HU.out], HCr, HLr, HSr⟩
     ·have k3 : ¬ (k : Int) < n := by omega
      have hke : k = n := by omega
      subst hke
      have s0 := heap_cell (i := 0) HW3.out rfl
      have s1 := heap_cell (i := 1) HW3.out rfl
      have s2 := heap_cell (i := 2) HW3.out rfl
      have s3 := heap_cell (i := 3) HW3.out rfl
      have s4 := heap_cell (i := 4) HW3.out rfl
      have s5 := heap_cell (i := 5) HW3.out rfl
      have s6 := heap_cell (i := 6) HW3.out rfl
      have HZ3 : Hid (wr.heap[w.heap.size + 1]? = some (.cells #[.slice none 0 0, .slice none 0 0, .int .i64 0, .slice none 0 0, .slice none 0 0, .slice none 0 0, .slice none 0 0] 63 (0, 0))) := lhid (HC3.out.keep HZe.out (by have := HNUM.out; omega))
      have y0 := heap_cell (i := 0) HZ3.out rfl
      have y1 := heap_cell (i := 1) HZ3.out rfl
      have y2 := heap_cell (i := 2) HZ3.out rfl
      have y3 := heap_cell (i := 3) HZ3.out rfl
      have y4 := heap_cell (i := 4) HZ3.out rfl
      have y5 := heap_cell (i := 5) HZ3.out rfl
      have y6 := heap_cell (i := 6) HZ3.out rfl
      have yz : ∀ i, wr.frozen? ⟨w.heap.size + 1, i, none⟩ = false := heap_thaw HZ3.out
      have yl := heap_lt HZ3.out
      go_wp2_with fail
      refine bodyPost_ret (results_cell_row rfl _ _ (w.heap.size + 1) 63 _ _ _ rfl (seven_set HZ3.out _ _ _ _ _ _ _) Try.underlying63 rfl sizeWeb) rfl ?_
      have hb9 : Below w.heap.size w wr := HBe.out.trans (HC3.out.to (by have := HNUM.out; have := HES.out; omega) (fun k hk => by have := HNUM.out; rcases hk with e | e <;> omega))
      have hch : Ch (fun b => b = w.heap.size + 1) wr _ := (((((((Ch.refl (fun b => b = w.heap.size + 1) wr).set (p := ⟨w.heap.size + 1, 0, none⟩) (fun _ => rfl) (.slice FA f.regs.length ac)).set (p := ⟨w.heap.size + 1, 1, none⟩) (fun _ => rfl) (.slice FB f.params.length bc)).set (p := ⟨w.heap.size + 1, 2, none⟩) (fun _ => rfl) (.int .i64 f.ret)).set (p := ⟨w.heap.size + 1, 3, none⟩) (fun _ => rfl) (.slice D k dcap)).set (p := ⟨w.heap.size + 1, 4, none⟩) (fun _ => rfl) (.slice E f.rows.length ecap)).set (p := ⟨w.heap.size + 1, 5, none⟩) (fun _ => rfl) (.slice (some ⟨gn, 0, none⟩) k k)).set (p := ⟨w.heap.size + 1, 6, none⟩) (fun _ => rfl) (.slice (some ⟨gs, 0, none⟩) k k)
      have hnum := HNUM.out
      exact ⟨gn, gs, rfl, by omega, by omega, (HL3.out.ch hch (fun b e => by constructor <;> omega)).base (by omega), HS3.out.of (hch.block gs HS3.out.lt (by omega)), hb9.trans (hch.to hb9.size (fun b e => by omega))⟩
end Go.Proofs.Ytbkeneadoccodaa
