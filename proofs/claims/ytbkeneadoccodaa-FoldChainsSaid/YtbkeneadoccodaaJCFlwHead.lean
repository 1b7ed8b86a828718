/- The places at which a block begins: the program's Heads. -/
import Derived.Test.YtbkeneadoccodaaJCFlwCaught
namespace Go.Proofs.Ytbkeneadoccodaa
open Go.RowKit Go
set_option linter.unusedVariables false
set_option linter.unusedSimpArgs false
def Marks (w : World) (g n : Nat) (P : Nat → Prop) : Prop := ∃ c : Array Value, w.heap[g]? = some (.cells c 4 (0, 0)) ∧ c.size = n ∧ ∀ i, i < n → ∃ b : Bool, c[i]? = some (.bool b) ∧ (b = true ↔ P i)
theorem Marks.lt {w : World} {g n : Nat} {P : Nat → Prop} (h : Marks w g n P) : g < w.heap.size := by
 obtain ⟨c, h1, _⟩ := h
 exact heap_lt h1
theorem Marks.fz {w : World} {g n : Nat} {P : Nat → Prop} (h : Marks w g n P) (i : Nat) : w.frozen? ⟨g, i, none⟩ = false := by
 obtain ⟨c, h1, _⟩ := h
 exact heap_thaw h1 i
theorem Marks.cell {w : World} {g n : Nat} {P : Nat → Prop} (h : Marks w g n P) {i : Nat} (hi : i < n) : ∃ b : Bool, w.cell? ⟨g, i, none⟩ = some (.bool b) ∧ (b = true ↔ P i) := by
 obtain ⟨c, h1, h2, h3⟩ := h
 obtain ⟨b, h4, h5⟩ := h3 i hi
 exact ⟨b, heap_cell h1 h4, h5⟩
theorem Marks.of {w w' : World} {g n : Nat} {P : Nat → Prop} (h : Marks w g n P) (e : w'.heap[g]? = w.heap[g]?) : Marks w' g n P := by
 obtain ⟨c, h1, h2⟩ := h
 exact ⟨c, e.trans h1, h2⟩
theorem Marks.below {w w' : World} {g n : Nat} {P : Nat → Prop} (h : Marks w g n P) (hb : Below w.heap.size w w') : Marks w' g n P := h.of (hb.block g h.lt)
theorem Marks.set {w : World} {g n : Nat} {P Q : Nat → Prop} (h : Marks w g n P) {k : Nat} (hk : k < n) (hQ : ∀ i, Q i ↔ P i ∨ i = k) : Marks (w.setCell ⟨g, k, none⟩ (.bool true)) g n Q := by
 obtain ⟨c, h1, h2, h3⟩ := h
 refine ⟨_, heap_set h1 _, by simpa using h2, fun i hi => ?_⟩
 by_cases e : k = i
 ·subst e
  exact ⟨true, by rw [Array.getElem?_setIfInBounds, if_pos rfl, if_pos (by omega)], by simp [hQ]⟩
 ·obtain ⟨b, h4, h5⟩ := h3 i hi
  refine ⟨b, by rw [Array.getElem?_setIfInBounds, if_neg e]; exact h4, ?_⟩
  rw [h5, hQ]
  constructor
  ·exact .inl
  ·rintro (h | h)
   ·exact h
   ·exact absurd h.symm e
theorem Marks.grown {w w' : World} {g n : Nat} {P : Nat → Prop} {row : Option Nat} (h : Marks w g n P) (hg : w.grownBy w' row) (hr : ∀ k, row = some k → g < k) : Marks w' g n P :=
 h.of (hg.block g h.lt (fun e => by have := hr g e.symm; omega))
theorem made_at (z : Array Value) (n x : Nat) (v : Value) (hx : x < n) (hz : z[x % z.size]? = some v) : (madeCells z n)[x]? = some v := by
 unfold madeCells
 rw [Array.getElem?_map, Array.getElem?_range, if_pos hx]
 simp only [Option.map_some]
 obtain ⟨h1, h2⟩ := Array.getElem?_eq_some_iff.1 hz
 rw [getElem!_pos z _ h1, h2]
theorem Marks.made (w : World) (n : Nat) (z : Array Value) (hz : z = #[.bool false]) (P : Nat → Prop) (hP : ∀ i, ¬ P i) (m : Nat) (hm : m = n) : Marks (w.alloc (.cells (madeCells z m) 4)) w.heap.size n P := by
 subst hz hm
 refine ⟨_, heap_alloc_new w _, by rw [size_madeCells], fun i hi => ⟨false, made_at _ _ _ _ hi ?_, by simp [hP]⟩⟩
 rw [show i % (#[Value.bool false] : Array Value).size = 0 from Nat.mod_one i]
 rfl
def atL (L : List Int) : Nat → Prop := fun i => (i : Int) ∈ L
theorem atL_out {L : List Int} {c : Int} {n : Nat} {w : World} {g : Nat} (h : Marks w g n (atL L)) (hc : ¬ (0 ≤ c ∧ c < n)) : Marks w g n (atL (L ++ [c])) := by
 obtain ⟨v, h1, h2, h3⟩ := h
 refine ⟨v, h1, h2, fun i hi => ?_⟩
 obtain ⟨b, h4, h5⟩ := h3 i hi
 refine ⟨b, h4, h5.trans ?_⟩
 unfold atL
 rw [List.mem_append, List.mem_singleton]
 constructor
 ·exact .inl
 ·rintro (h | h)
  ·exact h
  ·exact absurd ⟨by omega, by omega⟩ hc
theorem take_snoc {l : List Int} {k : Nat} {x : Int} (h : l[k]? = some x) : l.take (k + 1) = l.take k ++ [x] := by
 rw [List.take_add_one, h]
 rfl
set_option maxHeartbeats 4000000 in
set_option maxRecDepth 100000 in
theorem mark_c (f : FuI) (fa fb : Value) (D : Option Addr) (n dcap : Nat) (fe : Value) (F B G A : Nat) (L ps : List Int) (w : World) (hF : Hid (FBox w F fa fb f.ret (.slice D n dcap) fe)) (hB : Hid (w.heap[B]? = some (.cells #[.slice (some ⟨G, 0, none⟩) n n] 68 (0, 0))))
  (hM : Hid (Marks w G n (atL L))) (hA : Hid (w.heap[A]? = some (.cells (ps.map vI).toArray 3 (0, 0)))) (hps : Hid (ps.length ≤ 10)) (hn : Hid (n ≤ 140737488355328)) (hne : Hid (F ≠ G ∧ B ≠ G ∧ A ≠ G)) (m : Nat) (hm : m = ps.length) :
  Calls Try.prog 55 #[.slice (some ⟨A, 0, none⟩) m m, .pointer (some ⟨F, 0, none⟩), .pointer (some ⟨B, 0, none⟩)] w fun e w' => e = .returned (.tuple #[]) ∧ Ch (fun k => k = G) w w' ∧ Marks w' G n (atL (L ++ ps)) := by
 have hl : m ≤ 10 := by rw [hm]; exact hps.out
 have HL := lhid hm
 clear hm
 go_enter Try.func55, Try.ntmps55
 go_wp2_with fail
 go_loopw [8] (fun i wr => ∃ k : Nat, i = .int .i64 k ∧ k ≤ m ∧ Hid (Ch (fun k => k = G) w wr) ∧ Hid (Marks wr G n (atL (L ++ ps.take k)))) (fun i _ => m - (intOf i).toNat)
 case atStart => exact ⟨0, rfl, Nat.zero_le _, lhid (Ch.refl _ _), lhid (by rw [List.take_zero, List.append_nil]; exact hM.out)⟩
 case round =>
  obtain ⟨k, rfl, hk, HC, HM⟩ := hrel
  by_cases hlt : k < m
  ·have hlt2 : k < ps.length := by have := HL.out; omega
   obtain ⟨x, hx⟩ : ∃ x, ps[k]? = some x := ⟨_, List.getElem?_eq_getElem hlt2⟩
   have HX := lhid hx
   have c0 : wr.cell? ⟨A, k, none⟩ = some (.int .i64 x) := heap_cell (HC.out.keep hA.out hne.out.2.2) (by simp [HX.out, vI])
   have c1 : wr.cell? ⟨B, 0, none⟩ = some (.slice (some ⟨G, 0, none⟩) n n) := heap_cell (HC.out.keep hB.out hne.out.2.1) rfl
   have HF2 : Hid (FBox wr F fa fb f.ret (.slice D n dcap) fe) := lhid (HC.out.keep hF.out hne.out.1)
   obtain ⟨p0, p1, p2, p3, p4⟩ := HF2.out.cells
   have k3 : (k : Int) < m := by omega
   clear hx hlt2
   by_cases hp : 0 ≤ x ∧ x < n
   ·have HP : Hid ((decide (0 ≤ x) && decide (x < (n : Int))) = true) := lhid (by simp [hp.1, hp.2])
    obtain ⟨j, rfl⟩ : ∃ j : Nat, x = j := ⟨x.toNat, by omega⟩
    have hj : (j : Int) < n := hp.2
    clear hp
    go_wp2_with fail
    with_reducible refine (isPlace_r f fa fb D n dcap fe _ true _ HP).mono ?_
    rintro e w1 ⟨rfl, hb⟩
    have HC1 := lhid (HC.out.below hb)
    have HM1 := lhid (HM.out.below hb)
    have c1 : w1.cell? ⟨B, 0, none⟩ = some (.slice (some ⟨G, 0, none⟩) n n) := heap_cell (HC1.out.keep hB.out hne.out.2.1) rfl
    obtain ⟨b0, hb0, _⟩ := HM1.out.cell (show j < n by omega)
    have hz0 := HM1.out.fz j
    clear hb
    go_wp2_with fail
    go_roundw
    case rel =>
     refine ⟨k + 1, by go_num, by omega, lhid (HC1.out.set (fun _ => rfl) _), lhid (HM1.out.set (by omega) fun i => ?_)⟩
     rw [take_snoc HX.out]
     unfold atL
     simp only [List.mem_append, List.mem_singleton]
     constructor
     ·rintro (h | h | h)
      ·exact .inl (.inl h)
      ·exact .inl (.inr h)
      ·exact .inr (by omega)
     ·rintro ((h | h) | h)
      ·exact .inl h
      ·exact .inr (.inl h)
      ·exact .inr (.inr (by omega))
    case measure => simp [intOf]; omega
   ·have HP : Hid ((decide (0 ≤ x) && decide (x < (n : Int))) = false) := lhid (by rw [Bool.and_eq_false_iff, decide_eq_false_iff_not, decide_eq_false_iff_not]; omega)
    have HO := lhid hp
    clear hp
    go_wp2_with fail
    with_reducible refine (isPlace_r f fa fb D n dcap fe _ false _ HP).mono ?_
    rintro e w1 ⟨rfl, hb⟩
    have HC1 := lhid (HC.out.below hb)
    have HM1 := lhid (HM.out.below hb)
    clear hb
    go_wp2_with fail
    go_roundw
    case rel => exact ⟨k + 1, by go_num, by omega, HC1, lhid (by rw [take_snoc HX.out, ← List.append_assoc]; exact atL_out HM1.out HO.out)⟩
    case measure => simp [intOf]; omega
  ·have k3 : ¬ (k : Int) < m := by omega
   have hM2 := HM.out
   rw [List.take_of_length_le (by have := HL.out; omega)] at hM2
   have HM2 := lhid hM2
   clear hM2
   go_wp2_with fail
   exact ⟨rfl, _, results_none rfl _ _ _, rfl, HC.out, HM2.out⟩
def hmX (x : InI) (k : Nat) : List Int := (if leadsB x.op then [x.too, (k : Int) + 1] else []) ++ (if endsB x.op then [(k : Int) + 1] else [])
def hmT (c : List InI) (m : Nat) : List Int := (List.range m).flatMap fun k => match c[k]? with | some x => hmX x k | none => []
def hmR (l : List RwI) (m : Nat) : List Int := (l.take m).flatMap fun r => [r.fr, r.too, r.at_]
def hmL (f : FuI) : List Int := ([0] ++ hmT f.code f.code.length) ++ hmR f.rows f.rows.length
def hmB (f : FuI) (i : Nat) : Bool := decide ((i : Int) ∈ hmL f)
def hdT (f : FuI) (m : Nat) : List Int := ((List.range m).filter (hmB f)).map fun (i : Nat) => (i : Int)
def headsL (f : FuI) : List Int := hdT f f.code.length
theorem hmT_succ {c : List InI} {k : Nat} {x : InI} (h : c[k]? = some x) : hmT c (k + 1) = hmT c k ++ hmX x k := by
 unfold hmT
 rw [List.range_succ, List.flatMap_append]
 simp [h]
theorem hmR_succ {l : List RwI} {k : Nat} {r : RwI} (h : l[k]? = some r) : hmR l (k + 1) = hmR l k ++ [r.fr, r.too, r.at_] := by
 unfold hmR
 rw [List.take_add_one, h, List.flatMap_append]
 rfl
theorem hdT_yes {f : FuI} {k : Nat} (h : hmB f k = true) : hdT f (k + 1) = hdT f k ++ [(k : Int)] := by
 unfold hdT
 rw [List.range_succ, List.filter_append, List.map_append, List.filter_cons_of_pos h]
 rfl
theorem hdT_no {f : FuI} {k : Nat} (h : hmB f k = false) : hdT f (k + 1) = hdT f k := by
 unfold hdT
 rw [List.range_succ, List.filter_append, List.map_append, List.filter_cons_of_neg (by rw [h]; decide)]
 simp
theorem hdT_len (f : FuI) (k : Nat) : (hdT f k).length ≤ k := by
 unfold hdT
 rw [List.length_map]
 exact Nat.le_trans (List.length_filter_le _ _) (by simp)
theorem make_bools (n : Nat) (hn : n ≤ 140737488355328) (w : World) :
  (Instr.makeSlice 68 (.int .i64 (n : Int)) (.int .i64 (n : Int))).run Try.prog w = .ok (.slice (some ⟨w.heap.size, 0, none⟩) n n) (w.alloc (.cells (madeCells #[.bool false] n) 4)) := by
 obtain ⟨i0, hi0, hz0, hz1, hz2⟩ := info_parts (show (Try.prog.info? 4).map (fun i => (i.zero, i.size, i.bytes)) = some (some (.bool false), 1, 1) by kernel_rfl)
 have h := run_make (P := Try.prog) w 68 4 i0 _ Try.underlying68 hi0 hz0 .i64 .i64 n n (by omega) (Int.le_refl _) (by rw [hz2]; omega) (by omega)
 rw [h, hz1, Nat.mul_one]
 rfl
structure HdS (f : FuI) (fa fb : Value) (D : Option Addr) (n dcap : Nat) (fe : Value) (w : World) (L : List Int) (W : World) : Prop where
 below : Below w.heap.size w W
 fbox : FBox W w.heap.size fa fb f.ret (.slice D n dcap) fe
 bbox : W.heap[w.heap.size + 1 + 1]? = some (.cells #[.slice (some ⟨w.heap.size + 1, 0, none⟩) n n] 68 (0, 0))
 marks : Marks W (w.heap.size + 1) n (atL L)
theorem HdS.size {f : FuI} {fa fb : Value} {D : Option Addr} {n dcap : Nat} {fe : Value} {w : World} {L : List Int} {W : World} (h : HdS f fa fb D n dcap fe w L W) : w.heap.size + 1 + 1 < W.heap.size := heap_lt h.bbox
theorem HdS.on {f : FuI} {fa fb : Value} {D : Option Addr} {n dcap : Nat} {fe : Value} {w : World} {L : List Int} {W W' : World} (h : HdS f fa fb D n dcap fe w L W) (hb : Below W.heap.size W W') : HdS f fa fb D n dcap fe w L W' :=
 ⟨h.below.trans (hb.mono h.below.size), heap_keep h.fbox hb, heap_keep h.bbox hb, h.marks.below hb⟩
theorem HdS.alloc {f : FuI} {fa fb : Value} {D : Option Addr} {n dcap : Nat} {fe : Value} {w : World} {L : List Int} {W : World} (h : HdS f fa fb D n dcap fe w L W) (o : Obj) : HdS f fa fb D n dcap fe w L (W.alloc o) := h.on ((Below.refl _ _).alloc (Nat.le_refl _) o)
theorem HdS.cast {f : FuI} {fa fb : Value} {D : Option Addr} {n dcap : Nat} {fe : Value} {w : World} {L L' : List Int} {W : World} (h : HdS f fa fb D n dcap fe w L W) (e : L = L') : HdS f fa fb D n dcap fe w L' W := e ▸ h
theorem HdS.made (f : FuI) (fa fb : Value) (D : Option Addr) (n dcap : Nat) (fe : Value) (w : World) :
  HdS f fa fb D n dcap fe w [] (((w.alloc (.cells #[fa, fb, .int .i64 f.ret, .slice D n dcap, fe] 27)).alloc (.cells (madeCells #[.bool false] n) 4)).alloc (.cells #[.slice (some ⟨w.heap.size + 1, 0, none⟩) n n] 68)) := by
 have e1 : (w.alloc (.cells #[fa, fb, .int .i64 f.ret, .slice D n dcap, fe] 27)).heap.size = w.heap.size + 1 := by simp
 have m1 := Marks.made (w.alloc (.cells #[fa, fb, .int .i64 f.ret, .slice D n dcap, fe] 27)) n _ rfl (atL []) (by intro i; unfold atL; simp) n rfl
 rw [e1] at m1
 refine ⟨(((Below.refl _ _).alloc (Nat.le_refl _) _).alloc (by simp) _).alloc (by simp; omega) _, ?_, ?_, m1.below ((Below.refl _ _).alloc (Nat.le_refl _) _)⟩
 ·exact (Below.heap_alloc _ _ _ (by simp; omega)).trans ((Below.heap_alloc _ _ _ (by simp)).trans (heap_alloc_new w _))
 ·have := heap_new3 w (.cells #[fa, fb, .int .i64 f.ret, .slice D n dcap, fe] 27) (.cells (madeCells #[.bool false] n) 4) (.cells #[.slice (some ⟨w.heap.size + 1, 0, none⟩) n n] 68)
  exact this
theorem mark_s (f : FuI) (fa fb : Value) (D : Option Addr) (n dcap : Nat) (fe : Value) (w : World) (A : Nat) (L ps : List Int) (W : World) (h : Hid (HdS f fa fb D n dcap fe w L W)) (hA : Hid (W.heap[A]? = some (.cells (ps.map vI).toArray 3 (0, 0)))) (hps : Hid (ps.length ≤ 10)) (hn : Hid (n ≤ 140737488355328)) (hne : Hid (w.heap.size + 1 < A)) (m : Nat) (hm : m = ps.length) :
  Calls Try.prog 55 #[.slice (some ⟨A, 0, none⟩) m m, .pointer (some ⟨w.heap.size, 0, none⟩), .pointer (some ⟨w.heap.size + 1 + 1, 0, none⟩)] W fun e W' => e = .returned (.tuple #[]) ∧ HdS f fa fb D n dcap fe w (L ++ ps) W' ∧ Ch (fun k => k = w.heap.size + 1) W W' :=
 (mark_c f fa fb D n dcap fe w.heap.size (w.heap.size + 1 + 1) (w.heap.size + 1) A L ps W (lhid h.out.fbox) (lhid h.out.bbox) (lhid h.out.marks) hA hps hn (lhid ⟨by omega, by omega, by have := hne.out; omega⟩) m hm).mono fun e W' ⟨h1, h2, h3⟩ =>
  ⟨h1, ⟨((Ch.of (X := fun k => k = w.heap.size + 1) h.out.below).trans h2 (fun _ _ h => h)).to (Nat.le_refl _) (fun k e => by omega), h2.keep h.out.fbox (by omega), h2.keep h.out.bbox (by omega), h3⟩, h2⟩
set_option maxHeartbeats 16000000 in
set_option maxRecDepth 100000 in
theorem heads_any {P : Nat → Prop} (f : FuI) (fa fb fd fe : Value) (w : World) (h : Hid (FuV P w f fa fb fd fe)) (hcl : Hid (f.code.length * 96 ≤ 140737488355328)) :
  Calls Try.prog 27 #[fuL fa fb f.ret fd fe] w fun e w' => ∃ v, e = .returned v ∧ OwN w' w.heap.size v (headsL f) ∧ Below w.heap.size w w' := by
 obtain ⟨D, dcap, hD⟩ := h.out.d.shape
 subst hD
 obtain ⟨E, ecap, hE⟩ := h.out.e.shape
 subst hE
 have hdl := h.out.d.len
 have hel := h.out.e.len
 obtain ⟨n, hn⟩ : ∃ n, f.code.length = n := ⟨_, rfl⟩
 have HN := lhid hn
 have hd := h.out.d
 rw [hn] at hdl hd ⊢
 have HDD := lhid hd
 clear hn hd
 have hmake := make_bools n hdl
 go_enter Try.func27, Try.ntmps27
 go_upto_region 3 with fail
 have HS3 := lhid (HdS.made f fa fb D n dcap (.slice E f.rows.length ecap) w)
 clear hmake
 generalize (((w.alloc _).alloc _).alloc _) = w3 at *
 have hs3 := HS3.out.size
 have HNL := lhid hdl
 have HAw4 : Hid ((w3.alloc (.cells #[.int .i64 0] 3)).heap[w3.heap.size]? = some (.cells (([0] : List Int).map vI).toArray 3 (0, 0))) := lhid (heap_alloc_new w3 _)
 have HTw4 : Hid (HdS f fa fb D n dcap (.slice E f.rows.length ecap) w [] (w3.alloc (.cells #[.int .i64 0] 3))) := lhid (HS3.out.alloc _)
 have HNw4 : Hid (w.heap.size + 1 < w3.heap.size) := lhid (by have := HS3.out.size; omega)
 go_wp2_with fail
 with_reducible refine (mark_s f fa fb D n dcap (.slice E f.rows.length ecap) w _ [] [0] _ HTw4 HAw4 (lhid (by simp)) HNL HNw4 1 rfl).mono ?_
 rintro e w4 ⟨rfl, hsw4, hchw4⟩
 have HS4 := lhid hsw4
 obtain ⟨p0, p1, p2, p3, p4⟩ := hsw4.fbox.cells
 clear hsw4 hchw4 hs3
 go_wp2_with fail
 clear p0 p1 p2 p3 p4
 go_loopw [23] (fun i wr => ∃ k : Nat, i = .int .i64 k ∧ k ≤ n ∧ Hid (HdS f fa fb D n dcap (.slice E f.rows.length ecap) w ([0] ++ hmT f.code k) wr)) (fun i _ => n - (intOf i).toNat)
 case atStart => exact ⟨0, rfl, Nat.zero_le _, lhid (HS4.out.cast (by simp [hmT]))⟩
 case round =>
  clear HS4
  obtain ⟨k, rfl, hk, HS⟩ := hrel
  by_cases hlt : k < n
  ·
   obtain ⟨x, hx⟩ : ∃ x, f.code[k]? = some x := ⟨_, List.getElem?_eq_getElem (by have := HN.out; omega)⟩
   obtain ⟨g, o, v, hD, _, hv, c0, c1, c2, c3, c4, c5, c6, c7, c8⟩ := in_cells HDD.out hx
   subst hD
   obtain ⟨VA, vc, hv0⟩ := hv.shape
   subst hv0
   have kc : ∀ {p : Addr} {u : Value}, w.cell? p = some u → wr.cell? p = some u := fun {p u} hq => (HS.out.below.cell (p := p) (cell_lt hq)).trans hq
   replace c0 := kc c0
   replace c1 := kc c1
   replace c2 := kc c2
   replace c3 := kc c3
   replace c4 := kc c4
   replace c5 := kc c5
   replace c6 := kc c6
   replace c7 := kc c7
   replace c8 := kc c8
   have HX := lhid hx
   have HSZ := lhid HS.out.size
   have k3 : (k : Int) < n := by omega
   have hwk : wrap64 ((k : Int) + 1) = (k : Int) + 1 := IntWalk.wrap64_in _ (by omega)
   clear hx kc hv
   cases hz : leadsB x.op with
   | true =>
    cases hy : endsB x.op with
    | true =>
     have HZ := lhid hz
     have HY := lhid hy
     clear hz hy
     go_wp2_with fail
     with_reducible refine (leads_r x (.slice VA x.args.length vc) true _ HZ).mono ?_
     rintro e w5 ⟨rfl, hb5⟩
     have HS5 := lhid ((HS.out.alloc (.cells #[.int .i64 x.op, .int .i64 x.dst, .int .i64 x.a, .int .i64 x.b, .int .i64 x.c, .int .i64 x.num, .int .i64 x.too, .string (tx x.ref), .slice VA x.args.length vc] 29)).on hb5)
     have XB5 : Hid (XBox w5 wr.heap.size x.op x.dst x.a x.b x.c x.num x.too x.ref (.slice VA x.args.length vc)) := lhid (heap_keep (heap_alloc_new wr _) hb5)
     clear hb5 c0 c1 c2 c3 c4 c5 c6 c7 c8
     obtain ⟨x0, x1, x2, x3, x4, x5, x6, x7, x8⟩ := XB5.out.cells
     have HAw6 : Hid ((w5.alloc (.cells #[.int .i64 x.too, .int .i64 ((k : Int) + 1)] 3)).heap[w5.heap.size]? = some (.cells (([x.too, ((k : Int) + 1)] : List Int).map vI).toArray 3 (0, 0))) := lhid (heap_alloc_new w5 _)
     have HTw6 : Hid (HdS f fa fb (some ⟨g, o, none⟩) n dcap (.slice E f.rows.length ecap) w ([0] ++ hmT f.code k) (w5.alloc (.cells #[.int .i64 x.too, .int .i64 ((k : Int) + 1)] 3))) := lhid (HS5.out.alloc _)
     have HNw6 : Hid (w.heap.size + 1 < w5.heap.size) := lhid (by have := HS5.out.size; omega)
     go_wp2_with fail
     with_reducible refine (mark_s f fa fb (some ⟨g, o, none⟩) n dcap (.slice E f.rows.length ecap) w _ ([0] ++ hmT f.code k) [x.too, ((k : Int) + 1)] _ HTw6 HAw6 (lhid (by simp)) HNL HNw6 2 rfl).mono ?_
     rintro e w6 ⟨rfl, hsw6, hchw6⟩
     have HS6 := lhid hsw6
     have XB6 : Hid (XBox w6 wr.heap.size x.op x.dst x.a x.b x.c x.num x.too x.ref (.slice VA x.args.length vc)) := lhid (hchw6.keep (heap_keep XB5.out ((Below.refl _ _).alloc (Nat.le_refl _) _)) (by have := HSZ.out; omega))
     clear hsw6 hchw6 x0 x1 x2 x3 x4 x5 x6 x7 x8 HAw6 HTw6 HNw6
     obtain ⟨x0, x1, x2, x3, x4, x5, x6, x7, x8⟩ := XB6.out.cells
     go_wp2_with fail
     with_reducible refine (ends_r x (.slice VA x.args.length vc) true _ HY).mono ?_
     rintro e w7 ⟨rfl, hb7⟩
     have HS7 := lhid (HS6.out.on hb7)
     clear hb7 x0 x1 x2 x3 x4 x5 x6 x7 x8
     have HAw8 : Hid ((w7.alloc (.cells #[.int .i64 ((k : Int) + 1)] 3)).heap[w7.heap.size]? = some (.cells (([((k : Int) + 1)] : List Int).map vI).toArray 3 (0, 0))) := lhid (heap_alloc_new w7 _)
     have HTw8 : Hid (HdS f fa fb (some ⟨g, o, none⟩) n dcap (.slice E f.rows.length ecap) w (([0] ++ hmT f.code k) ++ [x.too, (k : Int) + 1]) (w7.alloc (.cells #[.int .i64 ((k : Int) + 1)] 3))) := lhid (HS7.out.alloc _)
     have HNw8 : Hid (w.heap.size + 1 < w7.heap.size) := lhid (by have := HS7.out.size; omega)
     go_wp2_with fail
     with_reducible refine (mark_s f fa fb (some ⟨g, o, none⟩) n dcap (.slice E f.rows.length ecap) w _ (([0] ++ hmT f.code k) ++ [x.too, (k : Int) + 1]) [((k : Int) + 1)] _ HTw8 HAw8 (lhid (by simp)) HNL HNw8 1 rfl).mono ?_
     rintro e w8 ⟨rfl, hsw8, hchw8⟩
     have HS8 := lhid hsw8
     clear hsw8 hchw8 HAw8 HTw8 HNw8
     have HEQ : Hid (hmX x k = [x.too, (k : Int) + 1, (k : Int) + 1]) := lhid (by unfold hmX; rw [HZ.out, HY.out]; rfl)
     have HSL : Hid (HdS f fa fb (some ⟨g, o, none⟩) n dcap (.slice E f.rows.length ecap) w ([0] ++ hmT f.code (k + 1)) w8) := lhid (HS8.out.cast (show _ = [0] ++ hmT f.code (k + 1) by rw [hmT_succ HX.out, HEQ.out]; simp))
     go_wp2_with fail
     go_roundw
     case rel => exact ⟨k + 1, by go_num, by omega, HSL⟩
     case measure => simp [intOf]; omega
    | false =>
     have HZ := lhid hz
     have HY := lhid hy
     clear hz hy
     go_wp2_with fail
     with_reducible refine (leads_r x (.slice VA x.args.length vc) true _ HZ).mono ?_
     rintro e w5 ⟨rfl, hb5⟩
     have HS5 := lhid ((HS.out.alloc (.cells #[.int .i64 x.op, .int .i64 x.dst, .int .i64 x.a, .int .i64 x.b, .int .i64 x.c, .int .i64 x.num, .int .i64 x.too, .string (tx x.ref), .slice VA x.args.length vc] 29)).on hb5)
     have XB5 : Hid (XBox w5 wr.heap.size x.op x.dst x.a x.b x.c x.num x.too x.ref (.slice VA x.args.length vc)) := lhid (heap_keep (heap_alloc_new wr _) hb5)
     clear hb5 c0 c1 c2 c3 c4 c5 c6 c7 c8
     obtain ⟨x0, x1, x2, x3, x4, x5, x6, x7, x8⟩ := XB5.out.cells
     have HAw6 : Hid ((w5.alloc (.cells #[.int .i64 x.too, .int .i64 ((k : Int) + 1)] 3)).heap[w5.heap.size]? = some (.cells (([x.too, ((k : Int) + 1)] : List Int).map vI).toArray 3 (0, 0))) := lhid (heap_alloc_new w5 _)
     have HTw6 : Hid (HdS f fa fb (some ⟨g, o, none⟩) n dcap (.slice E f.rows.length ecap) w ([0] ++ hmT f.code k) (w5.alloc (.cells #[.int .i64 x.too, .int .i64 ((k : Int) + 1)] 3))) := lhid (HS5.out.alloc _)
     have HNw6 : Hid (w.heap.size + 1 < w5.heap.size) := lhid (by have := HS5.out.size; omega)
     go_wp2_with fail
     with_reducible refine (mark_s f fa fb (some ⟨g, o, none⟩) n dcap (.slice E f.rows.length ecap) w _ ([0] ++ hmT f.code k) [x.too, ((k : Int) + 1)] _ HTw6 HAw6 (lhid (by simp)) HNL HNw6 2 rfl).mono ?_
     rintro e w6 ⟨rfl, hsw6, hchw6⟩
     have HS6 := lhid hsw6
     have XB6 : Hid (XBox w6 wr.heap.size x.op x.dst x.a x.b x.c x.num x.too x.ref (.slice VA x.args.length vc)) := lhid (hchw6.keep (heap_keep XB5.out ((Below.refl _ _).alloc (Nat.le_refl _) _)) (by have := HSZ.out; omega))
     clear hsw6 hchw6 x0 x1 x2 x3 x4 x5 x6 x7 x8 HAw6 HTw6 HNw6
     obtain ⟨x0, x1, x2, x3, x4, x5, x6, x7, x8⟩ := XB6.out.cells
     go_wp2_with fail
     with_reducible refine (ends_r x (.slice VA x.args.length vc) false _ HY).mono ?_
     rintro e w7 ⟨rfl, hb7⟩
     have HS7 := lhid (HS6.out.on hb7)
     clear hb7 x0 x1 x2 x3 x4 x5 x6 x7 x8
     have HEQ : Hid (hmX x k = [x.too, (k : Int) + 1]) := lhid (by unfold hmX; rw [HZ.out, HY.out]; rfl)
     have HSL : Hid (HdS f fa fb (some ⟨g, o, none⟩) n dcap (.slice E f.rows.length ecap) w ([0] ++ hmT f.code (k + 1)) w7) := lhid (HS7.out.cast (show _ = [0] ++ hmT f.code (k + 1) by rw [hmT_succ HX.out, HEQ.out]; simp))
     go_wp2_with fail
     go_roundw
     case rel => exact ⟨k + 1, by go_num, by omega, HSL⟩
     case measure => simp [intOf]; omega
   | false =>
    cases hy : endsB x.op with
    | true =>
     have HZ := lhid hz
     have HY := lhid hy
     clear hz hy
     go_wp2_with fail
     with_reducible refine (leads_r x (.slice VA x.args.length vc) false _ HZ).mono ?_
     rintro e w5 ⟨rfl, hb5⟩
     have HS5 := lhid ((HS.out.alloc (.cells #[.int .i64 x.op, .int .i64 x.dst, .int .i64 x.a, .int .i64 x.b, .int .i64 x.c, .int .i64 x.num, .int .i64 x.too, .string (tx x.ref), .slice VA x.args.length vc] 29)).on hb5)
     have XB5 : Hid (XBox w5 wr.heap.size x.op x.dst x.a x.b x.c x.num x.too x.ref (.slice VA x.args.length vc)) := lhid (heap_keep (heap_alloc_new wr _) hb5)
     clear hb5 c0 c1 c2 c3 c4 c5 c6 c7 c8
     obtain ⟨x0, x1, x2, x3, x4, x5, x6, x7, x8⟩ := XB5.out.cells
     go_wp2_with fail
     with_reducible refine (ends_r x (.slice VA x.args.length vc) true _ HY).mono ?_
     rintro e w7 ⟨rfl, hb7⟩
     have HS7 := lhid (HS5.out.on hb7)
     clear hb7 x0 x1 x2 x3 x4 x5 x6 x7 x8
     have HAw8 : Hid ((w7.alloc (.cells #[.int .i64 ((k : Int) + 1)] 3)).heap[w7.heap.size]? = some (.cells (([((k : Int) + 1)] : List Int).map vI).toArray 3 (0, 0))) := lhid (heap_alloc_new w7 _)
     have HTw8 : Hid (HdS f fa fb (some ⟨g, o, none⟩) n dcap (.slice E f.rows.length ecap) w ([0] ++ hmT f.code k) (w7.alloc (.cells #[.int .i64 ((k : Int) + 1)] 3))) := lhid (HS7.out.alloc _)
     have HNw8 : Hid (w.heap.size + 1 < w7.heap.size) := lhid (by have := HS7.out.size; omega)
     go_wp2_with fail
     with_reducible refine (mark_s f fa fb (some ⟨g, o, none⟩) n dcap (.slice E f.rows.length ecap) w _ ([0] ++ hmT f.code k) [((k : Int) + 1)] _ HTw8 HAw8 (lhid (by simp)) HNL HNw8 1 rfl).mono ?_
     rintro e w8 ⟨rfl, hsw8, hchw8⟩
     have HS8 := lhid hsw8
     clear hsw8 hchw8 HAw8 HTw8 HNw8
     have HEQ : Hid (hmX x k = [(k : Int) + 1]) := lhid (by unfold hmX; rw [HZ.out, HY.out]; rfl)
     have HSL : Hid (HdS f fa fb (some ⟨g, o, none⟩) n dcap (.slice E f.rows.length ecap) w ([0] ++ hmT f.code (k + 1)) w8) := lhid (HS8.out.cast (show _ = [0] ++ hmT f.code (k + 1) by rw [hmT_succ HX.out, HEQ.out]; simp))
     go_wp2_with fail
     go_roundw
     case rel => exact ⟨k + 1, by go_num, by omega, HSL⟩
     case measure => simp [intOf]; omega
    | false =>
     have HZ := lhid hz
     have HY := lhid hy
     clear hz hy
     go_wp2_with fail
     with_reducible refine (leads_r x (.slice VA x.args.length vc) false _ HZ).mono ?_
     rintro e w5 ⟨rfl, hb5⟩
     have HS5 := lhid ((HS.out.alloc (.cells #[.int .i64 x.op, .int .i64 x.dst, .int .i64 x.a, .int .i64 x.b, .int .i64 x.c, .int .i64 x.num, .int .i64 x.too, .string (tx x.ref), .slice VA x.args.length vc] 29)).on hb5)
     have XB5 : Hid (XBox w5 wr.heap.size x.op x.dst x.a x.b x.c x.num x.too x.ref (.slice VA x.args.length vc)) := lhid (heap_keep (heap_alloc_new wr _) hb5)
     clear hb5 c0 c1 c2 c3 c4 c5 c6 c7 c8
     obtain ⟨x0, x1, x2, x3, x4, x5, x6, x7, x8⟩ := XB5.out.cells
     go_wp2_with fail
     with_reducible refine (ends_r x (.slice VA x.args.length vc) false _ HY).mono ?_
     rintro e w7 ⟨rfl, hb7⟩
     have HS7 := lhid (HS5.out.on hb7)
     clear hb7 x0 x1 x2 x3 x4 x5 x6 x7 x8
     have HEQ : Hid (hmX x k = []) := lhid (by unfold hmX; rw [HZ.out, HY.out]; rfl)
     have HSL : Hid (HdS f fa fb (some ⟨g, o, none⟩) n dcap (.slice E f.rows.length ecap) w ([0] ++ hmT f.code (k + 1)) w7) := lhid (HS7.out.cast (show _ = [0] ++ hmT f.code (k + 1) by rw [hmT_succ HX.out, HEQ.out]; simp))
     go_wp2_with fail
     go_roundw
     case rel => exact ⟨k + 1, by go_num, by omega, HSL⟩
     case measure => simp [intOf]; omega
  ·have k3 : ¬ (k : Int) < n := by omega
   have hke : k = f.code.length := by have := HN.out; omega
   have HS5 := lhid (HS.out.cast (by rw [hke]) : HdS f fa fb D n dcap (.slice E f.rows.length ecap) w ([0] ++ hmT f.code f.code.length) wr)
   clear hke HS
   obtain ⟨p0, p1, p2, p3, p4⟩ := HS5.out.fbox.cells
   go_wp2_with fail
   clear p0 p1 p2 p3 p4
   go_loopw [48] (fun i wr => ∃ k : Nat, i = .int .i64 k ∧ k ≤ f.rows.length ∧ Hid (HdS f fa fb D n dcap (.slice E f.rows.length ecap) w (([0] ++ hmT f.code f.code.length) ++ hmR f.rows k) wr)) (fun i _ => f.rows.length - (intOf i).toNat)
   case atStart => exact ⟨0, rfl, Nat.zero_le _, lhid (HS5.out.cast (by simp [hmR]))⟩
   case round =>
    clear HS5 hk k3 hlt
    obtain ⟨k, rfl, hk, HS⟩ := hrel
    by_cases hlt : k < f.rows.length
    ·
     obtain ⟨r, hx⟩ : ∃ r, f.rows[k]? = some r := ⟨_, List.getElem?_eq_getElem hlt⟩
     obtain ⟨g, o, hE, c0, c1, c2, c3⟩ := rw_cells h.out.e hx
     subst hE
     have kc : ∀ {p : Addr} {u : Value}, w.cell? p = some u → wr.cell? p = some u := fun {p u} hq => (HS.out.below.cell (p := p) (cell_lt hq)).trans hq
     replace c0 := kc c0
     replace c1 := kc c1
     replace c2 := kc c2
     replace c3 := kc c3
     have HX := lhid hx
     have k3 : (k : Int) < f.rows.length := by omega
     have hwk : wrap64 ((k : Int) + 1) = (k : Int) + 1 := IntWalk.wrap64_in _ (by omega)
     have HS6 := lhid (HS.out.alloc (.cells #[.int .i64 r.fr, .int .i64 r.too, .int .i64 r.at_, .string (tx r.cls)] 52))
     clear hx kc
     have HAw8 : Hid (((wr.alloc (.cells #[.int .i64 r.fr, .int .i64 r.too, .int .i64 r.at_, .string (tx r.cls)] 52)).alloc (.cells #[.int .i64 r.fr, .int .i64 r.too, .int .i64 r.at_] 3)).heap[wr.heap.size + 1]? = some (.cells (([r.fr, r.too, r.at_] : List Int).map vI).toArray 3 (0, 0))) := lhid (heap_new2 wr _ _)
     have HTw8 : Hid (HdS f fa fb D n dcap (.slice (some ⟨g, o, none⟩) f.rows.length ecap) w (([0] ++ hmT f.code f.code.length) ++ hmR f.rows k) ((wr.alloc (.cells #[.int .i64 r.fr, .int .i64 r.too, .int .i64 r.at_, .string (tx r.cls)] 52)).alloc (.cells #[.int .i64 r.fr, .int .i64 r.too, .int .i64 r.at_] 3))) := lhid (HS6.out.alloc _)
     have HNw8 : Hid (w.heap.size + 1 < wr.heap.size + 1) := lhid (by have := HS.out.size; omega)
     go_wp2_with fail
     with_reducible refine (mark_s f fa fb D n dcap (.slice (some ⟨g, o, none⟩) f.rows.length ecap) w _ (([0] ++ hmT f.code f.code.length) ++ hmR f.rows k) [r.fr, r.too, r.at_] _ HTw8 HAw8 (lhid (by simp)) HNL HNw8 3 rfl).mono ?_
     rintro e w8 ⟨rfl, hsw8, hchw8⟩
     have HSL : Hid (HdS f fa fb D n dcap (.slice (some ⟨g, o, none⟩) f.rows.length ecap) w (([0] ++ hmT f.code f.code.length) ++ hmR f.rows (k + 1)) w8) := lhid (hsw8.cast (show _ = ([0] ++ hmT f.code f.code.length) ++ hmR f.rows (k + 1) by rw [hmR_succ HX.out]; simp))
     clear hsw8 hchw8 HAw8 HTw8 HNw8
     go_wp2_with fail
     go_roundw
     case rel => exact ⟨k + 1, by go_num, by omega, HSL⟩
     case measure => simp [intOf]; omega
    ·
     have k3 : ¬ (k : Int) < f.rows.length := by omega
     have hke : k = f.rows.length := by omega
     have HS7 := lhid (HS.out.cast (by rw [hke]; rfl) : HdS f fa fb D n dcap (.slice E f.rows.length ecap) w (hmL f) wr)
     clear hke HS
     have b0 : wr.cell? ⟨w.heap.size + 1 + 1, 0, none⟩ = some (.slice (some ⟨w.heap.size + 1, 0, none⟩) n n) := heap_cell HS7.out.bbox rfl
     go_wp2_with fail
     clear b0
     obtain ⟨w5, hw5⟩ : ∃ w5, w5 = wr := ⟨_, rfl⟩
     subst hw5
     obtain ⟨i0, hi0, hz0, hz1, hz2⟩ := info_parts info_nuP
     have hc2 : n * 96 ≤ 140737488355328 := by have := hcl.out; rw [HN.out] at this; exact this
     go_loopw [9, 64] (fun v i wr => ∃ (T : List Int) (A : Option Addr) (q k : Nat), v = .slice A T.length q ∧ i = .int .i64 k ∧ k ≤ n ∧ Hid (T = hdT f k) ∧ Hid (OwN wr w5.heap.size (.slice A T.length q) T) ∧ Hid (Below w5.heap.size w5 wr)) (fun _ i _ => n - (intOf i).toNat)
     case atStart => exact ⟨[], none, 0, 0, rfl, rfl, Nat.zero_le _, lhid (by simp [hdT]), lhid (World.ownsRow_nil _ _ _ _), lhid (Below.refl _ _)⟩
     case round =>
      clear hk k3 hlt
      obtain ⟨T, A, q, k, rfl, rfl, hk, HT, HO, HB⟩ := hrel
      by_cases hlt : k < n
      ·obtain ⟨bb, c0, hbb⟩ := (HS7.out.marks.below HB.out).cell hlt
       have k3 : (k : Int) < n := by omega
       have hwk : wrap64 ((k : Int) + 1) = (k : Int) + 1 := IntWalk.wrap64_in _ (by omega)
       have hTl : T.length ≤ k := by rw [HT.out]; exact hdT_len f k
       cases bb with
       | false =>
        have HT2 : Hid (T = hdT f (k + 1)) := lhid (by rw [hdT_no (show hmB f k = false by unfold hmB; rw [decide_eq_false_iff_not]; intro e; cases hbb.2 e)]; exact HT.out)
        clear hbb
        go_wp2_with fail
        go_roundw
        case rel => exact ⟨T, A, q, k + 1, rfl, by go_num, by omega, HT2, HO, HB⟩
        case measure => simp [intOf]; omega
       | true =>
        have HT2 : Hid (T ++ [(k : Int)] = hdT f (k + 1)) := lhid (by rw [hdT_yes (show hmB f k = true by unfold hmB; rw [decide_eq_true_eq]; exact hbb.1 rfl), HT.out])
        clear hbb
        have hbs := HB.out.size
        go_wp2_with (at_builtin; refine wpList_append_own _ rfl (.tmp 70) (.tmp 72) 23 rfl w5.heap.size 3 i0 (.int .i64 0) 1 8 Try.underlying23 hi0 hz0 hz1 hz2 rfl (by decide) (.slice A T.length q) T.length (T.map vI) rfl (HO.out.alloc _) ⟨wr.heap.size, 0, none⟩ 1 1 [vI (k : Int)] rfl rfl ?c1 ?c2 ?c3 ?c4 ?c5 ?_)
        case c1 => exact new_cells _ _ _
        case c2 => (intro u hu; simp at hu; subst hu; rfl)
        case c3 => (unfold maxLen; omega)
        case c4 => omega
        case c5 => (simp; omega)
        intro v' w' hown hgrow hnil
        obtain ⟨A', q', rfl⟩ := own_shape hown
        have HO2 : Hid (OwN w' w5.heap.size (.slice A' (T ++ [(k : Int)]).length q') (T ++ [(k : Int)])) := lhid (by simpa [OwN] using hown)
        have HB3 := lhid (Below.grown (HB.out.alloc HB.out.size _) hgrow (by simp; omega) (fun r e => own_lt HO.out r e))
        obtain ⟨U, hU⟩ : ∃ U, T ++ [(k : Int)] = U := ⟨_, rfl⟩
        have hUl : T.length + 1 = U.length := by rw [← hU]; simp
        rw [hU] at HO2 HT2
        clear hown hgrow hnil hU
        go_wp2_with fail
        go_roundw
        case rel => exact ⟨U, A', q', k + 1, by rw [hUl], by go_num, by omega, HT2, HO2, HB3⟩
        case measure => simp [intOf]; omega
      ·have k3 : ¬ (k : Int) < n := by omega
       have hke : k = f.code.length := by have := HN.out; omega
       have HR : Hid (T = headsL f) := lhid (by rw [HT.out, hke]; rfl)
       clear hke
       go_wp2_with fail
       go_ret
       refine ⟨_, rfl, ?_, HS7.out.below.trans (HB.out.mono HS7.out.below.size)⟩
       rw [← HR.out]
       exact own_le HO.out HS7.out.below.size
end Go.Proofs.Ytbkeneadoccodaa
