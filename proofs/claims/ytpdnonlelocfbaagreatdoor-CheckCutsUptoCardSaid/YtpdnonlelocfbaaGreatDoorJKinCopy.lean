/- Copies of frames, methods, classes, and of lists of these. -/
import Derived.Test.YtpdnonlelocfbaaGreatDoorM11
import Derived.Deep.MidRow
namespace Go.Proofs.YtpdnonlelocfbaaGreatDoor
open Go.RowKit Go
set_option linter.unusedVariables false
theorem below_cells {B b : Nat} {a w : World} (h : Below B a w) (hb : B ≤ b) (o : Nat) (vs : List Value) : Below B a (w.setCells b o vs) := by
  have hr := setCells_rest b vs o w
  exact ⟨hr.1.trans h.os, hr.2.1.trans h.tape, hr.2.2.trans h.output, by rw [setCells_size]; exact h.size, fun k hk => by rw [setCells_other (by omega)]; exact h.block k hk⟩

set_option maxHeartbeats 4000000 in
set_option maxRecDepth 100000 in
theorem copyFrame_any (P : Nat → Prop) (x : FrI) (a b : Value) (w : World) (Ha : Hid (RdX P 1 StE w a x.locals)) (Hb : Hid (RdX P 1 StE w b x.stack)) :
    Calls Tryz.prog 137 #[.agg #[.int .i64 x.pc, a, b]] w fun e w' => ∃ cs' : List Value, e = .returned (.agg cs'.toArray) ∧ FrE (fun g => w.heap.size ≤ g) w' x cs' ∧ Below w.heap.size w w' := by
  have HB0 : Hid (Below w.heap.size w ((w.alloc (.cells #[.int .i64 x.pc, a, b] 94)).alloc (.cells #[.int .i64 0, .slice none 0 0, .slice none 0 0] 94))) := lhid (((Below.refl _ _).alloc (Nat.le_refl _) _).alloc (by simp) _)
  have HX0 : Hid (((w.alloc (.cells #[.int .i64 x.pc, a, b] 94)).alloc (.cells #[.int .i64 0, .slice none 0 0, .slice none 0 0] 94)).heap[w.heap.size]? = some (.cells #[.int .i64 x.pc, a, b] 94 (0, 0))) := lhid ((Below.heap_alloc _ _ _ (by simp)).trans (heap_alloc_new w _))
  have HY0 : Hid (((w.alloc (.cells #[.int .i64 x.pc, a, b] 94)).alloc (.cells #[.int .i64 0, .slice none 0 0, .slice none 0 0] 94)).heap[w.heap.size + 1]? = some (.cells #[.int .i64 0, .slice none 0 0, .slice none 0 0] 94 (0, 0))) := lhid (by
    have := heap_alloc_new (w.alloc (.cells #[.int .i64 x.pc, a, b] 94)) (.cells #[.int .i64 0, .slice none 0 0, .slice none 0 0] 94)
    simpa using this)
  have HS0 : Hid (w.heap.size + 2 ≤ ((w.alloc (.cells #[.int .i64 x.pc, a, b] 94)).alloc (.cells #[.int .i64 0, .slice none 0 0, .slice none 0 0] 94)).heap.size) := lhid (by simp)
  go_enter Tryz.func137, Tryz.ntmps137
  go_wp2_with fail
  with_reducible refine (clone_st row_st a _ _ (lhid ((Ha.out).below (keptX_st _) HB0.out))).mono ?_
  rintro e w1 ⟨v1, xs1, rfl, ho1, hr1, hb⟩
  obtain ⟨A1, c1, rfl⟩ := own_shape ho1
  have HX1' := lhid ((hb.block _ (heap_lt HX0.out)).trans HX0.out)
  have HY1' := lhid ((hb.block _ (heap_lt HY0.out)).trans HY0.out)
  have HB1' := lhid (HB0.out.trans (Below.less hb HB0.out.size))
  have HS1 : Hid (w.heap.size + 2 ≤ w1.heap.size) := lhid (by have h1 := HS0.out; have h2 := hb.size; omega)
  have HV1_1 := lhid ((rdX_own (E := StE) ho1 Ha.out.len hr1).any (Q := fun g => w.heap.size + 1 < g) fun g hg => by have h1 := hg.1; have h2 := HS0.out; omega)
  clear hb
  have HS1s : Hid (w.heap.size + 2 ≤ (w1.setCell ⟨w.heap.size, 1, none⟩ (.slice A1 x.locals.length c1)).heap.size) := lhid (by have h1 := HS1.out; simpa [World.setCell] using h1)
  have q1 := heap_cell (i := 1) HX1'.out rfl
  have z1 := heap_thaw HX1'.out 1
  have r1 := heap_cell (i := 2) HX1'.out rfl
  have HX1 : Hid ((w1.setCell ⟨w.heap.size, 1, none⟩ (.slice A1 x.locals.length c1)).heap[w.heap.size]? = some (.cells #[.int .i64 x.pc, .slice A1 x.locals.length c1, b] 94 (0, 0))) := lhid (heap_set HX1'.out (.slice A1 x.locals.length c1))
  have HY1 : Hid ((w1.setCell ⟨w.heap.size, 1, none⟩ (.slice A1 x.locals.length c1)).heap[w.heap.size + 1]? = some (.cells #[.int .i64 0, .slice none 0 0, .slice none 0 0] 94 (0, 0))) := lhid ((Below.heap_setCell _ _ _ _ (by simp)).trans HY1'.out)
  have HB1 : Hid (Below w.heap.size w (w1.setCell ⟨w.heap.size, 1, none⟩ (.slice A1 x.locals.length c1))) := lhid (HB1'.out.setCell (Nat.le_refl _) (.slice A1 x.locals.length c1))
  have HV1_1s : Hid (RdX (fun g => w.heap.size + 1 < g) 1 StE (w1.setCell ⟨w.heap.size, 1, none⟩ (.slice A1 x.locals.length c1)) (.slice A1 x.locals.length c1) x.locals) := lhid (HV1_1.out.kept (keptX_st _) (fun g hg _ => Below.heap_setCell _ _ _ _ (by show g ≠ w.heap.size; omega)))
  go_wp2_with fail
  clear q1 z1 r1
  with_reducible refine (clone_st row_st b _ _ (lhid ((Hb.out).below (keptX_st _) HB1.out))).mono ?_
  rintro e w2 ⟨v2, xs2, rfl, ho2, hr2, hb⟩
  obtain ⟨A2, c2, rfl⟩ := own_shape ho2
  have HX2' := lhid ((hb.block _ (heap_lt HX1.out)).trans HX1.out)
  have HY2' := lhid ((hb.block _ (heap_lt HY1.out)).trans HY1.out)
  have HB2' := lhid (HB1.out.trans (Below.less hb HB1.out.size))
  have HS2 : Hid (w.heap.size + 2 ≤ w2.heap.size) := lhid (by have h1 := HS1s.out; have h2 := hb.size; omega)
  have HV2_2 := lhid ((rdX_own (E := StE) ho2 Hb.out.len hr2).any (Q := fun g => w.heap.size + 1 < g) fun g hg => by have h1 := hg.1; have h2 := HS1s.out; omega)
  have HV1_2 := lhid (HV1_1s.out.below (keptX_st _) hb)
  clear hb
  have HS2s : Hid (w.heap.size + 2 ≤ (w2.setCell ⟨w.heap.size, 2, none⟩ (.slice A2 x.stack.length c2)).heap.size) := lhid (by have h1 := HS2.out; simpa [World.setCell] using h1)
  have q2 := heap_cell (i := 2) HX2'.out rfl
  have z2 := heap_thaw HX2'.out 2
  have r0 := heap_cell (i := 0) HX2'.out rfl
  have y0 := heap_cell (i := 0) HY2'.out rfl
  have yz0 := heap_thaw HY2'.out 0
  have r1 := heap_cell (i := 1) HX2'.out rfl
  have y1 := heap_cell (i := 1) HY2'.out rfl
  have yz1 := heap_thaw HY2'.out 1
  have y2 := heap_cell (i := 2) HY2'.out rfl
  have yz2 := heap_thaw HY2'.out 2
  have HX2 : Hid ((w2.setCell ⟨w.heap.size, 2, none⟩ (.slice A2 x.stack.length c2)).heap[w.heap.size]? = some (.cells #[.int .i64 x.pc, .slice A1 x.locals.length c1, .slice A2 x.stack.length c2] 94 (0, 0))) := lhid (heap_set HX2'.out (.slice A2 x.stack.length c2))
  have HY2 : Hid ((w2.setCell ⟨w.heap.size, 2, none⟩ (.slice A2 x.stack.length c2)).heap[w.heap.size + 1]? = some (.cells #[.int .i64 0, .slice none 0 0, .slice none 0 0] 94 (0, 0))) := lhid ((Below.heap_setCell _ _ _ _ (by simp)).trans HY2'.out)
  have HB2 : Hid (Below w.heap.size w (w2.setCell ⟨w.heap.size, 2, none⟩ (.slice A2 x.stack.length c2))) := lhid (HB2'.out.setCell (Nat.le_refl _) (.slice A2 x.stack.length c2))
  have HV1_2s : Hid (RdX (fun g => w.heap.size + 1 < g) 1 StE (w2.setCell ⟨w.heap.size, 2, none⟩ (.slice A2 x.stack.length c2)) (.slice A1 x.locals.length c1) x.locals) := lhid (HV1_2.out.kept (keptX_st _) (fun g hg _ => Below.heap_setCell _ _ _ _ (by show g ≠ w.heap.size; omega)))
  have HV2_2s : Hid (RdX (fun g => w.heap.size + 1 < g) 1 StE (w2.setCell ⟨w.heap.size, 2, none⟩ (.slice A2 x.stack.length c2)) (.slice A2 x.stack.length c2) x.stack) := lhid (HV2_2.out.kept (keptX_st _) (fun g hg _ => Below.heap_setCell _ _ _ _ (by show g ≠ w.heap.size; omega)))
  go_wp2_with fail
  refine bodyPost_ret (v := .agg #[.int .i64 x.pc, .slice A1 x.locals.length c1, .slice A2 x.stack.length c2]) (by simp [results, Tryz.results137, go_sem, y0, y1, y2]) rfl ?_
  refine ⟨[.int .i64 x.pc, .slice A1 x.locals.length c1, .slice A2 x.stack.length c2], rfl, ⟨_, _, rfl, (HV1_2s.out.kept (keptX_st _) (fun g hg _ => setCells_other (b := w.heap.size + 1) (by omega) [.int .i64 x.pc, .slice A1 x.locals.length c1, .slice A2 x.stack.length c2] 0 _)).mono (fun _ _ h => h) (fun g hg _ => by omega) st_ne, (HV2_2s.out.kept (keptX_st _) (fun g hg _ => setCells_other (b := w.heap.size + 1) (by omega) [.int .i64 x.pc, .slice A1 x.locals.length c1, .slice A2 x.stack.length c2] 0 _)).mono (fun _ _ h => h) (fun g hg _ => by omega) st_ne⟩, below_cells HB2.out (b := w.heap.size + 1) (by omega) 0 [.int .i64 x.pc, .slice A1 x.locals.length c1, .slice A2 x.stack.length c2]⟩

theorem sz_fr : (Tryz.prog.info? 94).map (·.size) = some 3 := by kernel_rfl
theorem sz_meK : (Tryz.prog.info? 27).map (·.size) = some 8 := by kernel_rfl
theorem heap_setCells {b T : Nat} {f : Nat × Nat} : ∀ (vs : List Value) (o : Nat) (w : World) (cur : Array Value), w.heap[b]? = some (.cells cur T f) → ∃ cur' : Array Value, (w.setCells b o vs).heap[b]? = some (.cells cur' T f) ∧ cur'.size = cur.size ∧ (∀ j, j < o ∨ o + vs.length ≤ j → cur'[j]? = cur[j]?) ∧ ∀ j u, vs[j]? = some u → o + j < cur.size → cur'[o + j]? = some u
  | [], o, w, cur, h => ⟨cur, h, rfl, fun _ _ => rfl, fun j u hu => by simp at hu⟩
  | v :: r, o, w, cur, h => by
    rw [World.setCells]
    obtain ⟨cur', h1, h2, h3, h4⟩ := heap_setCells r (o + 1) _ _ (heap_set h v)
    refine ⟨cur', h1, by rw [h2]; simp, fun j hj => ?_, fun j u hu hlt => ?_⟩
    · rw [h3 j (by simp only [List.length_cons] at hj; omega), Array.getElem?_setIfInBounds_ne (by simp only [List.length_cons] at hj; omega)]
    · cases j with
      | zero =>
        simp at hu
        subst hu
        rw [h3 _ (by omega), Nat.add_zero, Array.getElem?_setIfInBounds_self]
        simp
        omega
      | succ j =>
        have := h4 j u (by simpa using hu) (by simp; omega)
        rwa [show o + 1 + j = o + (j + 1) by omega] at this
/-- Block g holds, up to kk, copies of l. -/
def CI {α : Type} (T k : Nat) (E : World → α → List Value → Prop) (w : World) (g cap : Nat) (l : List α) (kk : Nat) : Prop :=
  ∃ cur, w.heap[g]? = some (.cells cur T (0, 0)) ∧ cur.size = cap * k ∧ ∀ (i : Nat) (a : α), i < kk → l[i]? = some a → ∃ c, E w a c ∧ c.length = k ∧ ∀ (j : Nat) u, c[j]? = some u → cur[i * k + j]? = some u
theorem CI.lt {α : Type} {T k : Nat} {E : World → α → List Value → Prop} {w : World} {g cap kk : Nat} {l : List α} (h : CI T k E w g cap l kk) : g < w.heap.size := by
  obtain ⟨cur, h1, _⟩ := h
  exact heap_lt h1
theorem CI.below {α : Type} {T k : Nat} {P : Nat → Prop} {E : World → α → List Value → Prop} (hE : KeptX P E) {w w' : World} {g cap kk : Nat} {l : List α} (h : CI T k E w g cap l kk) (hb : Below w.heap.size w w') : CI T k E w' g cap l kk := by
  obtain ⟨cur, h1, h2, h3⟩ := h
  refine ⟨cur, (hb.block _ (heap_lt h1)).trans h1, h2, fun i a hi ha => ?_⟩
  obtain ⟨c, h4, h5⟩ := h3 i a hi ha
  exact ⟨c, hE _ _ _ _ (fun b _ hl => hb.block b hl) h4, h5⟩
theorem CI.store {α : Type} {T k : Nat} {P : Nat → Prop} {E : World → α → List Value → Prop} (hE : KeptX P E) {w : World} {g cap kk : Nat} {l : List α} (hP : ∀ b, P b → b ≠ g) (h : CI T k E w g cap l kk) {a : α} (ha : l[kk]? = some a) {c : List Value} (hc : E w a c) (hk : c.length = k) (hcap : kk < cap) :
    CI T k E (w.setCells g (kk * k) c) g cap l (kk + 1) := by
  obtain ⟨cur, h1, h2, h3⟩ := h
  obtain ⟨cur', h4, h5, h6, h7⟩ := heap_setCells c (kk * k) w cur h1
  have hmul : (kk + 1) * k ≤ cap * k := Nat.mul_le_mul_right _ hcap
  rw [Nat.succ_mul] at hmul
  have hkeep : ∀ b, P b → b < w.heap.size → (w.setCells g (kk * k) c).heap[b]? = w.heap[b]? := fun b hb _ => setCells_other (hP b hb) _ _ _
  refine ⟨cur', h4, h5.trans h2, fun i x hi hx => ?_⟩
  rcases Nat.lt_or_ge i kk with hlt | hge
  · obtain ⟨d, h8, hd, h9⟩ := h3 i x hlt hx
    refine ⟨d, hE _ _ _ _ hkeep h8, hd, fun j u hu => ?_⟩
    have h10 := h9 j u hu
    have h11 := (List.getElem?_eq_some_iff.1 hu).1
    have h12 : (i + 1) * k ≤ kk * k := Nat.mul_le_mul_right _ hlt
    rw [Nat.succ_mul] at h12
    rw [h6 _ (.inl (by omega))]
    exact h10
  · have e : i = kk := by omega
    subst e
    rw [ha] at hx
    injection hx with hx
    subst hx
    exact ⟨c, hE _ _ _ _ hkeep hc, hk, fun j u hu => h7 j u hu (by have := (List.getElem?_eq_some_iff.1 hu).1; omega)⟩
theorem CI.done {α : Type} {T k : Nat} {Q : Nat → Prop} {E E' : World → α → List Value → Prop} {w : World} {g cap : Nat} {l : List α} (h : CI T k E w g cap l l.length) (hg : Q g) (hE : ∀ a c, E w a c → E' w a c) (hl : l.length ≤ 4294967296) : RdX Q k E' w (.slice (some ⟨g, 0, none⟩) l.length cap) l := by
  obtain ⟨cur, h1, h2, h3⟩ := h
  refine ⟨_, _, rfl, fun e => (by cases e), hl, fun i a hi => ?_⟩
  obtain ⟨c, h4, _, h5⟩ := h3 i a (List.getElem?_eq_some_iff.1 hi).1 hi
  exact ⟨g, 0, c, rfl, hg, hE _ _ h4, fun j u hu => heap_cell h1 (by rw [Nat.zero_add]; exact h5 j u hu)⟩

set_option maxHeartbeats 16000000 in
set_option maxRecDepth 100000 in
theorem copyFrames_any (P : Nat → Prop) (v : Value) (l : List FrI) (w : World) (h : Hid (RdX P 3 (FrE P) w v l)) :
    Calls Tryz.prog 136 #[v, .func (.func 137) #[] #[]] w fun e w' => ∃ v', e = .returned v' ∧ RdX (fun g => w.heap.size ≤ g) 3 (FrE fun g => w.heap.size ≤ g) w' v' l ∧ Below w.heap.size w w' := by
  obtain ⟨A, cap, rfl⟩ := h.out.shape
  have hlen := h.out.len
  go_enter Tryz.func136, Tryz.ntmps136
  go_wp2_with fail
  with_reducible refine (clone_fr (row_fr P) (.slice A l.length cap) l _ h).mono ?_
  rintro e w1 ⟨v1, xs, rfl, ho, hr, hb⟩
  have HB1 := lhid hb
  have H1 := lhid (h.out.below (keptX_fr P) hb)
  have HO := lhid ho
  have hws := hb.size
  clear hb ho hr
  rcases Nat.eq_zero_or_pos l.length with h0 | hpos
  · have hl : l = [] := List.length_eq_zero_iff.1 h0
    subst hl
    clear h0
    have HN := lhid (rdX_own (E := FrE fun g => w.heap.size ≤ g) (l := ([] : List FrI)) HO.out (by simp) ⟨HO.out.1, fun i a hi => by simp at hi⟩)
    obtain ⟨A1, c1, rfl⟩ := own_shape HO.out
    go_wp2_with fail
    go_loopw [12] (fun i wr => i = .int .i64 0 ∧ wr = w1) (fun _ _ => 0)
    case atStart => exact ⟨rfl, rfl⟩
    case round =>
      obtain ⟨rfl, rfl⟩ := hrel
      go_wp2_with fail
      go_ret
      exact ⟨_, rfl, HN.out.any fun g hg => hg.1, HB1.out⟩
  obtain ⟨g, cap1, rfl, hg1, hcap1, HC0⟩ : ∃ g cap1, v1 = .slice (some ⟨g, 0, none⟩) l.length cap1 ∧ w.heap.size ≤ g ∧ l.length ≤ cap1 ∧ Hid (CI 94 3 (FrE fun b => w.heap.size ≤ b ∧ b ≠ g) w1 g cap1 l 0) := by
    rcases HO.out.2 with ⟨_, h2⟩ | ⟨g, cap1, cur, hv, h2, h3, h4, h5, h6, _⟩
    · omega
    · exact ⟨g, cap1, hv, h2, h4, lhid ⟨cur, h3, h6, fun i a hi => by omega⟩⟩
  clear HO
  go_wp2_with fail
  go_loopw [12] (fun i wr => ∃ kk : Nat, i = .int .i64 kk ∧ kk ≤ l.length ∧ Hid (CI 94 3 (FrE fun b => w.heap.size ≤ b ∧ b ≠ g) wr g cap1 l kk) ∧ Hid (Below w.heap.size w wr)) (fun i _ => l.length - (intOf i).toNat)
  case atStart => exact ⟨0, rfl, Nat.zero_le _, HC0, HB1⟩
  case round =>
    obtain ⟨kk, rfl, hkk, HC, HB⟩ := hrel
    by_cases hlt : kk < l.length
    · obtain ⟨x, hx⟩ : ∃ x, l[kk]? = some x := ⟨_, List.getElem?_eq_getElem hlt⟩
      have HX := lhid hx
      have HR := lhid (h.out.below (keptX_fr P) HB.out)
      obtain ⟨ga, oa, cc, rfl, _, hE, hc⟩ := HR.out.at' hx
      obtain ⟨a, b, rfl, ha, hb⟩ := hE
      obtain ⟨xa, ca, rfl⟩ := ha.shape
      obtain ⟨xb, cb, rfl⟩ := hb.shape
      have Ha0 := lhid ha
      clear ha
      have Hb0 := lhid hb
      clear hb
      have c0 : wr.cell? ⟨ga, oa + kk * 3, none⟩ = some (.int .i64 x.pc) := hc 0 _ rfl
      have c1 : wr.cell? ⟨ga, oa + kk * 3 + 1, none⟩ = some (.slice xa x.locals.length ca) := hc 1 _ rfl
      have c2 : wr.cell? ⟨ga, oa + kk * 3 + 2, none⟩ = some (.slice xb x.stack.length cb) := hc 2 _ rfl
      have k3 : (kk : Int) < l.length := by omega
      have hbs := HB.out.size
      have hgs := HC.out.lt
      have HW : Hid (Below w.heap.size w (wr.alloc (.cells #[.int .i64 x.pc, .slice xa x.locals.length ca, .slice xb x.stack.length cb] 94))) := lhid (HB.out.alloc HB.out.size (.cells #[.int .i64 x.pc, .slice xa x.locals.length ca, .slice xb x.stack.length cb] 94))
      have HW2 : Hid (Below wr.heap.size wr (wr.alloc (.cells #[.int .i64 x.pc, .slice xa x.locals.length ca, .slice xb x.stack.length cb] 94))) := lhid ((Below.refl wr.heap.size wr).alloc (Nat.le_refl _) (.cells #[.int .i64 x.pc, .slice xa x.locals.length ca, .slice xb x.stack.length cb] 94))
      clear hx hc
      go_wp2_with fail
      with_reducible refine (copyFrame_any P x (.slice xa x.locals.length ca) (.slice xb x.stack.length cb) (wr.alloc (.cells #[.int .i64 x.pc, .slice xa x.locals.length ca, .slice xb x.stack.length cb] 94)) (lhid (Ha0.out.below (keptX_st P) HW2.out)) (lhid (Hb0.out.below (keptX_st P) HW2.out))).mono ?_
      rintro e w2 ⟨cs2, rfl, hE2, hB2⟩
      obtain ⟨a2, b2, rfl, ha2, hb2⟩ := hE2
      obtain ⟨ya, da, rfl⟩ := ha2.shape
      obtain ⟨yb, db, rfl⟩ := hb2.shape
      have hbb : Below wr.heap.size wr w2 := HW2.out.trans (Below.less hB2 (by simp))
      have HC2 := lhid (HC.out.below (keptX_fr _) hbb)
      have HBN := lhid (HW.out.trans (Below.less hB2 (by simp; omega)))
      have hE3 : FrE (fun b => w.heap.size ≤ b ∧ b ≠ g) w2 x [.int .i64 x.pc, .slice ya x.locals.length da, .slice yb x.stack.length db] := frE_mono (fun b hb _ => by simp at hb; omega) _ _ ⟨_, _, rfl, ha2, hb2⟩
      have HE3 := lhid hE3
      obtain ⟨cur, hcur, hcs, _⟩ := HC2.out
      have hmul : (kk + 1) * 3 ≤ cap1 * 3 := Nat.mul_le_mul_right _ (by omega)
      have hth : w2.there g (kk * 3) 3 := fun j hj => ⟨by rw [heap_cell hcur (Array.getElem?_eq_getElem (by omega))]; rfl, heap_thaw hcur _⟩
      have HTH := lhid hth
      have HALL : Hid ((#[.int .i64 x.pc, .slice ya x.locals.length da, .slice yb x.stack.length db] : Array Value).all (·.oneCell') = true) := lhid (all_oneCell_toArray (row_fr _ _ _ _ HE3.out).2)
      clear hbb hB2 hE3 hcur hcs ha2 hb2 hth
      go_wp2_with (refine wpList_store_mid rfl 94 _ _ rfl g (kk * 3) #[.int .i64 x.pc, .slice ya x.locals.length da, .slice yb x.stack.length db] rfl rfl HTH.out sz_fr HALL.out ?_)
      go_roundw
      case rel => exact ⟨kk + 1, by go_num, by omega, lhid (CI.store (keptX_fr _) (fun b hb => hb.2) HC2.out HX.out HE3.out rfl (by omega)), lhid (below_cells (b := g) HBN.out hg1 (kk * 3) [.int .i64 x.pc, .slice ya x.locals.length da, .slice yb x.stack.length db])⟩
      case measure => simp [intOf]; omega
    · have k3 : ¬ (kk : Int) < l.length := by omega
      have e : kk = l.length := by omega
      subst e
      go_wp2_with fail
      go_ret
      exact ⟨_, rfl, CI.done HC.out hg1 (frE_mono fun b hb _ => hb.1) hlen, HB.out⟩

set_option maxHeartbeats 4000000 in
set_option maxRecDepth 100000 in
theorem copyMethod_any (P : Nat → Prop) (x : MeI) (a b d : Value) (w : World) (Ha : Hid (RdX P 1 ByE w a x.code)) (Hb : Hid (RdX P 4 RwE w b x.rows)) (Hd : Hid (RdX P 3 (FrE P) w d x.frames)) :
    Calls Tryz.prog 66 #[.agg #[.int .i64 x.flags, .string (tx x.name), .string (tx x.desc), .int .i64 x.stack, .int .i64 x.locals, a, b, d]] w fun e w' => ∃ cs' : List Value, e = .returned (.agg cs'.toArray) ∧ MeE (fun g => w.heap.size ≤ g) w' x cs' ∧ Below w.heap.size w w' := by
  have HB0 : Hid (Below w.heap.size w ((w.alloc (.cells #[.int .i64 x.flags, .string (tx x.name), .string (tx x.desc), .int .i64 x.stack, .int .i64 x.locals, a, b, d] 27)).alloc (.cells #[.int .i64 0, .string ⟨#[]⟩, .string ⟨#[]⟩, .int .i64 0, .int .i64 0, .slice none 0 0, .slice none 0 0, .slice none 0 0] 27))) := lhid (((Below.refl _ _).alloc (Nat.le_refl _) _).alloc (by simp) _)
  have HX0 : Hid (((w.alloc (.cells #[.int .i64 x.flags, .string (tx x.name), .string (tx x.desc), .int .i64 x.stack, .int .i64 x.locals, a, b, d] 27)).alloc (.cells #[.int .i64 0, .string ⟨#[]⟩, .string ⟨#[]⟩, .int .i64 0, .int .i64 0, .slice none 0 0, .slice none 0 0, .slice none 0 0] 27)).heap[w.heap.size]? = some (.cells #[.int .i64 x.flags, .string (tx x.name), .string (tx x.desc), .int .i64 x.stack, .int .i64 x.locals, a, b, d] 27 (0, 0))) := lhid ((Below.heap_alloc _ _ _ (by simp)).trans (heap_alloc_new w _))
  have HY0 : Hid (((w.alloc (.cells #[.int .i64 x.flags, .string (tx x.name), .string (tx x.desc), .int .i64 x.stack, .int .i64 x.locals, a, b, d] 27)).alloc (.cells #[.int .i64 0, .string ⟨#[]⟩, .string ⟨#[]⟩, .int .i64 0, .int .i64 0, .slice none 0 0, .slice none 0 0, .slice none 0 0] 27)).heap[w.heap.size + 1]? = some (.cells #[.int .i64 0, .string ⟨#[]⟩, .string ⟨#[]⟩, .int .i64 0, .int .i64 0, .slice none 0 0, .slice none 0 0, .slice none 0 0] 27 (0, 0))) := lhid (by
    have := heap_alloc_new (w.alloc (.cells #[.int .i64 x.flags, .string (tx x.name), .string (tx x.desc), .int .i64 x.stack, .int .i64 x.locals, a, b, d] 27)) (.cells #[.int .i64 0, .string ⟨#[]⟩, .string ⟨#[]⟩, .int .i64 0, .int .i64 0, .slice none 0 0, .slice none 0 0, .slice none 0 0] 27)
    simpa using this)
  have HS0 : Hid (w.heap.size + 2 ≤ ((w.alloc (.cells #[.int .i64 x.flags, .string (tx x.name), .string (tx x.desc), .int .i64 x.stack, .int .i64 x.locals, a, b, d] 27)).alloc (.cells #[.int .i64 0, .string ⟨#[]⟩, .string ⟨#[]⟩, .int .i64 0, .int .i64 0, .slice none 0 0, .slice none 0 0, .slice none 0 0] 27)).heap.size) := lhid (by simp)
  go_enter Tryz.func66, Tryz.ntmps66
  go_wp2_with fail
  with_reducible refine (clone_by row_by a _ _ (lhid ((Ha.out).below (keptX_by _) HB0.out))).mono ?_
  rintro e w1 ⟨v1, xs1, rfl, ho1, hr1, hb⟩
  obtain ⟨A1, c1, rfl⟩ := own_shape ho1
  have HX1' := lhid ((hb.block _ (heap_lt HX0.out)).trans HX0.out)
  have HY1' := lhid ((hb.block _ (heap_lt HY0.out)).trans HY0.out)
  have HB1' := lhid (HB0.out.trans (Below.less hb HB0.out.size))
  have HS1 : Hid (w.heap.size + 2 ≤ w1.heap.size) := lhid (by have h1 := HS0.out; have h2 := hb.size; omega)
  have HV1_1 := lhid ((rdX_own (E := ByE) ho1 Ha.out.len hr1).any (Q := fun g => w.heap.size + 1 < g) fun g hg => by have h1 := hg.1; have h2 := HS0.out; omega)
  clear hb
  have HS1s : Hid (w.heap.size + 2 ≤ (w1.setCell ⟨w.heap.size, 5, none⟩ (.slice A1 x.code.length c1)).heap.size) := lhid (by have h1 := HS1.out; simpa [World.setCell] using h1)
  have q1 := heap_cell (i := 5) HX1'.out rfl
  have z1 := heap_thaw HX1'.out 5
  have r1 := heap_cell (i := 6) HX1'.out rfl
  have HX1 : Hid ((w1.setCell ⟨w.heap.size, 5, none⟩ (.slice A1 x.code.length c1)).heap[w.heap.size]? = some (.cells #[.int .i64 x.flags, .string (tx x.name), .string (tx x.desc), .int .i64 x.stack, .int .i64 x.locals, .slice A1 x.code.length c1, b, d] 27 (0, 0))) := lhid (heap_set HX1'.out (.slice A1 x.code.length c1))
  have HY1 : Hid ((w1.setCell ⟨w.heap.size, 5, none⟩ (.slice A1 x.code.length c1)).heap[w.heap.size + 1]? = some (.cells #[.int .i64 0, .string ⟨#[]⟩, .string ⟨#[]⟩, .int .i64 0, .int .i64 0, .slice none 0 0, .slice none 0 0, .slice none 0 0] 27 (0, 0))) := lhid ((Below.heap_setCell _ _ _ _ (by simp)).trans HY1'.out)
  have HB1 : Hid (Below w.heap.size w (w1.setCell ⟨w.heap.size, 5, none⟩ (.slice A1 x.code.length c1))) := lhid (HB1'.out.setCell (Nat.le_refl _) (.slice A1 x.code.length c1))
  have HV1_1s : Hid (RdX (fun g => w.heap.size + 1 < g) 1 ByE (w1.setCell ⟨w.heap.size, 5, none⟩ (.slice A1 x.code.length c1)) (.slice A1 x.code.length c1) x.code) := lhid (HV1_1.out.kept (keptX_by _) (fun g hg _ => Below.heap_setCell _ _ _ _ (by show g ≠ w.heap.size; omega)))
  go_wp2_with fail
  clear q1 z1 r1
  with_reducible refine (clone_rw row_rw b _ _ (lhid ((Hb.out).below (keptX_rw _) HB1.out))).mono ?_
  rintro e w2 ⟨v2, xs2, rfl, ho2, hr2, hb⟩
  obtain ⟨A2, c2, rfl⟩ := own_shape ho2
  have HX2' := lhid ((hb.block _ (heap_lt HX1.out)).trans HX1.out)
  have HY2' := lhid ((hb.block _ (heap_lt HY1.out)).trans HY1.out)
  have HB2' := lhid (HB1.out.trans (Below.less hb HB1.out.size))
  have HS2 : Hid (w.heap.size + 2 ≤ w2.heap.size) := lhid (by have h1 := HS1s.out; have h2 := hb.size; omega)
  have HV2_2 := lhid ((rdX_own (E := RwE) ho2 Hb.out.len hr2).any (Q := fun g => w.heap.size + 1 < g) fun g hg => by have h1 := hg.1; have h2 := HS1s.out; omega)
  have HV1_2 := lhid (HV1_1s.out.below (keptX_by _) hb)
  clear hb
  have HS2s : Hid (w.heap.size + 2 ≤ (w2.setCell ⟨w.heap.size, 6, none⟩ (.slice A2 x.rows.length c2)).heap.size) := lhid (by have h1 := HS2.out; simpa [World.setCell] using h1)
  have q2 := heap_cell (i := 6) HX2'.out rfl
  have z2 := heap_thaw HX2'.out 6
  have r2 := heap_cell (i := 7) HX2'.out rfl
  have HX2 : Hid ((w2.setCell ⟨w.heap.size, 6, none⟩ (.slice A2 x.rows.length c2)).heap[w.heap.size]? = some (.cells #[.int .i64 x.flags, .string (tx x.name), .string (tx x.desc), .int .i64 x.stack, .int .i64 x.locals, .slice A1 x.code.length c1, .slice A2 x.rows.length c2, d] 27 (0, 0))) := lhid (heap_set HX2'.out (.slice A2 x.rows.length c2))
  have HY2 : Hid ((w2.setCell ⟨w.heap.size, 6, none⟩ (.slice A2 x.rows.length c2)).heap[w.heap.size + 1]? = some (.cells #[.int .i64 0, .string ⟨#[]⟩, .string ⟨#[]⟩, .int .i64 0, .int .i64 0, .slice none 0 0, .slice none 0 0, .slice none 0 0] 27 (0, 0))) := lhid ((Below.heap_setCell _ _ _ _ (by simp)).trans HY2'.out)
  have HB2 : Hid (Below w.heap.size w (w2.setCell ⟨w.heap.size, 6, none⟩ (.slice A2 x.rows.length c2))) := lhid (HB2'.out.setCell (Nat.le_refl _) (.slice A2 x.rows.length c2))
  have HV1_2s : Hid (RdX (fun g => w.heap.size + 1 < g) 1 ByE (w2.setCell ⟨w.heap.size, 6, none⟩ (.slice A2 x.rows.length c2)) (.slice A1 x.code.length c1) x.code) := lhid (HV1_2.out.kept (keptX_by _) (fun g hg _ => Below.heap_setCell _ _ _ _ (by show g ≠ w.heap.size; omega)))
  have HV2_2s : Hid (RdX (fun g => w.heap.size + 1 < g) 4 RwE (w2.setCell ⟨w.heap.size, 6, none⟩ (.slice A2 x.rows.length c2)) (.slice A2 x.rows.length c2) x.rows) := lhid (HV2_2.out.kept (keptX_rw _) (fun g hg _ => Below.heap_setCell _ _ _ _ (by show g ≠ w.heap.size; omega)))
  go_wp2_with fail
  clear q2 z2 r2
  with_reducible refine (copyFrames_any P d _ _ (lhid ((Hd.out).below (keptX_fr _) HB2.out))).mono ?_
  rintro e w3 ⟨v3, rfl, hr3, hb⟩
  obtain ⟨A3, c3, rfl⟩ := hr3.shape
  have HX3' := lhid ((hb.block _ (heap_lt HX2.out)).trans HX2.out)
  have HY3' := lhid ((hb.block _ (heap_lt HY2.out)).trans HY2.out)
  have HB3' := lhid (HB2.out.trans (Below.less hb HB2.out.size))
  have HS3 : Hid (w.heap.size + 2 ≤ w3.heap.size) := lhid (by have h1 := HS2s.out; have h2 := hb.size; omega)
  have HV3_3 := lhid (hr3.mono (E' := FrE fun g => w.heap.size + 1 < g) (frE_mono fun g hg _ => by have h2 := HS2s.out; omega) (Q := fun g => w.heap.size + 1 < g) (fun g hg _ => by have h2 := HS2s.out; omega) fr_ne)
  have HV1_3 := lhid (HV1_2s.out.below (keptX_by _) hb)
  have HV2_3 := lhid (HV2_2s.out.below (keptX_rw _) hb)
  clear hb
  have HS3s : Hid (w.heap.size + 2 ≤ (w3.setCell ⟨w.heap.size, 7, none⟩ (.slice A3 x.frames.length c3)).heap.size) := lhid (by have h1 := HS3.out; simpa [World.setCell] using h1)
  have q3 := heap_cell (i := 7) HX3'.out rfl
  have z3 := heap_thaw HX3'.out 7
  have r0 := heap_cell (i := 0) HX3'.out rfl
  have y0 := heap_cell (i := 0) HY3'.out rfl
  have yz0 := heap_thaw HY3'.out 0
  have r1 := heap_cell (i := 1) HX3'.out rfl
  have y1 := heap_cell (i := 1) HY3'.out rfl
  have yz1 := heap_thaw HY3'.out 1
  have r2 := heap_cell (i := 2) HX3'.out rfl
  have y2 := heap_cell (i := 2) HY3'.out rfl
  have yz2 := heap_thaw HY3'.out 2
  have r3 := heap_cell (i := 3) HX3'.out rfl
  have y3 := heap_cell (i := 3) HY3'.out rfl
  have yz3 := heap_thaw HY3'.out 3
  have r4 := heap_cell (i := 4) HX3'.out rfl
  have y4 := heap_cell (i := 4) HY3'.out rfl
  have yz4 := heap_thaw HY3'.out 4
  have r5 := heap_cell (i := 5) HX3'.out rfl
  have y5 := heap_cell (i := 5) HY3'.out rfl
  have yz5 := heap_thaw HY3'.out 5
  have r6 := heap_cell (i := 6) HX3'.out rfl
  have y6 := heap_cell (i := 6) HY3'.out rfl
  have yz6 := heap_thaw HY3'.out 6
  have y7 := heap_cell (i := 7) HY3'.out rfl
  have yz7 := heap_thaw HY3'.out 7
  have HX3 : Hid ((w3.setCell ⟨w.heap.size, 7, none⟩ (.slice A3 x.frames.length c3)).heap[w.heap.size]? = some (.cells #[.int .i64 x.flags, .string (tx x.name), .string (tx x.desc), .int .i64 x.stack, .int .i64 x.locals, .slice A1 x.code.length c1, .slice A2 x.rows.length c2, .slice A3 x.frames.length c3] 27 (0, 0))) := lhid (heap_set HX3'.out (.slice A3 x.frames.length c3))
  have HY3 : Hid ((w3.setCell ⟨w.heap.size, 7, none⟩ (.slice A3 x.frames.length c3)).heap[w.heap.size + 1]? = some (.cells #[.int .i64 0, .string ⟨#[]⟩, .string ⟨#[]⟩, .int .i64 0, .int .i64 0, .slice none 0 0, .slice none 0 0, .slice none 0 0] 27 (0, 0))) := lhid ((Below.heap_setCell _ _ _ _ (by simp)).trans HY3'.out)
  have HB3 : Hid (Below w.heap.size w (w3.setCell ⟨w.heap.size, 7, none⟩ (.slice A3 x.frames.length c3))) := lhid (HB3'.out.setCell (Nat.le_refl _) (.slice A3 x.frames.length c3))
  have HV1_3s : Hid (RdX (fun g => w.heap.size + 1 < g) 1 ByE (w3.setCell ⟨w.heap.size, 7, none⟩ (.slice A3 x.frames.length c3)) (.slice A1 x.code.length c1) x.code) := lhid (HV1_3.out.kept (keptX_by _) (fun g hg _ => Below.heap_setCell _ _ _ _ (by show g ≠ w.heap.size; omega)))
  have HV2_3s : Hid (RdX (fun g => w.heap.size + 1 < g) 4 RwE (w3.setCell ⟨w.heap.size, 7, none⟩ (.slice A3 x.frames.length c3)) (.slice A2 x.rows.length c2) x.rows) := lhid (HV2_3.out.kept (keptX_rw _) (fun g hg _ => Below.heap_setCell _ _ _ _ (by show g ≠ w.heap.size; omega)))
  have HV3_3s : Hid (RdX (fun g => w.heap.size + 1 < g) 3 (FrE fun g => w.heap.size + 1 < g) (w3.setCell ⟨w.heap.size, 7, none⟩ (.slice A3 x.frames.length c3)) (.slice A3 x.frames.length c3) x.frames) := lhid (HV3_3.out.kept (keptX_fr _) (fun g hg _ => Below.heap_setCell _ _ _ _ (by show g ≠ w.heap.size; omega)))
  go_wp2_with fail
  refine bodyPost_ret (v := .agg #[.int .i64 x.flags, .string (tx x.name), .string (tx x.desc), .int .i64 x.stack, .int .i64 x.locals, .slice A1 x.code.length c1, .slice A2 x.rows.length c2, .slice A3 x.frames.length c3]) (by simp [results, Tryz.results66, go_sem, y0, y1, y2, y3, y4, y5, y6, y7]) rfl ?_
  refine ⟨[.int .i64 x.flags, .string (tx x.name), .string (tx x.desc), .int .i64 x.stack, .int .i64 x.locals, .slice A1 x.code.length c1, .slice A2 x.rows.length c2, .slice A3 x.frames.length c3], rfl, ⟨_, _, _, rfl, (HV1_3s.out.kept (keptX_by _) (fun g hg _ => setCells_other (b := w.heap.size + 1) (by omega) [.int .i64 x.flags, .string (tx x.name), .string (tx x.desc), .int .i64 x.stack, .int .i64 x.locals, .slice A1 x.code.length c1, .slice A2 x.rows.length c2, .slice A3 x.frames.length c3] 0 _)).mono (fun _ _ h => h) (fun g hg _ => by omega) by_ne, (HV2_3s.out.kept (keptX_rw _) (fun g hg _ => setCells_other (b := w.heap.size + 1) (by omega) [.int .i64 x.flags, .string (tx x.name), .string (tx x.desc), .int .i64 x.stack, .int .i64 x.locals, .slice A1 x.code.length c1, .slice A2 x.rows.length c2, .slice A3 x.frames.length c3] 0 _)).mono (fun _ _ h => h) (fun g hg _ => by omega) rw_ne, (HV3_3s.out.kept (keptX_fr _) (fun g hg _ => setCells_other (b := w.heap.size + 1) (by omega) [.int .i64 x.flags, .string (tx x.name), .string (tx x.desc), .int .i64 x.stack, .int .i64 x.locals, .slice A1 x.code.length c1, .slice A2 x.rows.length c2, .slice A3 x.frames.length c3] 0 _)).mono (frE_mono fun g hg _ => by omega) (fun g hg _ => by omega) fr_ne⟩, below_cells HB3.out (b := w.heap.size + 1) (by omega) 0 [.int .i64 x.flags, .string (tx x.name), .string (tx x.desc), .int .i64 x.stack, .int .i64 x.locals, .slice A1 x.code.length c1, .slice A2 x.rows.length c2, .slice A3 x.frames.length c3]⟩
end Go.Proofs.YtpdnonlelocfbaaGreatDoor
