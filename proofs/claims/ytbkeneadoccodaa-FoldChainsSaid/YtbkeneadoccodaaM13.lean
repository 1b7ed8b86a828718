/- Texts of this claim, joined: CFolMath, CFlwNew, CFlwWeb. -/
import Derived.Test.YtbkeneadoccodaaJCFlwHead
import Derived.Test.YtbkeneadoccodaaM12
import Derived.Deep.RegionLaw
import Derived.Deep.RegionHeld3
/- Fold in plain words: what becomes of each instruction. No walk in this text. -/
namespace Go.Proofs.Ytbkeneadoccodaa
open Go.RowKit Go
set_option linter.unusedVariables false
abbrev KnF := Int → Option Int
def cstI (r n : Int) : InI := ⟨1, r, 0, 0, 0, n, 0, [], []⟩
def wayI (td : Int) (t : Bool) : InI := if t then ⟨27, 0, 0, 0, 0, 0, td, [], []⟩ else ⟨33, 0, 0, 0, 0, 0, 0, [], []⟩
def foI (K : KnF) (x : InI) : InI :=
 if x.op = 4 then (match K x.a with | some a => cstI x.dst a | none => x)
 else if x.op = 6 then (match K x.a with | some a => cstI x.dst (Nm.one x.num a) | none => x)
 else if x.op = 5 then (match K x.a, K x.b with | some a, some b => cstI x.dst (Nm.two x.num a b) | _, _ => x)
 else if x.op = 28 then (match K x.a, K x.b with | some a, some b => wayI x.too (Nm.cnd x.num a b) | _, _ => x)
 else x
def noK (K : KnF) (x : InI) : KnF := if x.op = 1 then fun s => if s = x.dst then some x.num else K s else fun s => if s = defI x then none else K s
def foS (f : FuI) : Nat → KnF
 | 0 => fun _ => none
 | k + 1 => match f.code[k]? with
  | some x => noK (if hmB f k then fun _ => none else foS f k) (foI (if hmB f k then fun _ => none else foS f k) x)
  | none => foS f k
def foH (f : FuI) (k : Nat) : KnF := if hmB f k then fun _ => none else foS f k
theorem foS_succ {f : FuI} {k : Nat} {x : InI} (h : f.code[k]? = some x) : foS f (k + 1) = noK (foH f k) (foI (foH f k) x) := by
 show (match f.code[k]? with | some x => _ | none => _) = _
 rw [h]
 rfl
def foP (f : FuI) (k : Nat) : List InI := f.code.mapIdx fun i x => if i < k then foI (foH f i) x else x
def foC (f : FuI) : List InI := f.code.mapIdx fun i x => foI (foH f i) x
theorem foP_zero (f : FuI) : foP f 0 = f.code := by
 refine List.ext_getElem? fun i => ?_
 rw [foP, List.getElem?_mapIdx]
 cases f.code[i]? <;> simp
theorem foP_len (f : FuI) (k : Nat) : (foP f k).length = f.code.length := by rw [foP, List.length_mapIdx]
theorem foC_len (f : FuI) : (foC f).length = f.code.length := by rw [foC, List.length_mapIdx]
theorem foP_all (f : FuI) : foP f f.code.length = foC f := by
 refine List.ext_getElem? fun i => ?_
 rw [foP, foC, List.getElem?_mapIdx, List.getElem?_mapIdx]
 cases h : f.code[i]? with
 | none => rfl
 | some x =>
  have := (List.getElem?_eq_some_iff.1 h).1
  simp [this]
theorem foP_get {f : FuI} {k i : Nat} {x : InI} (h : f.code[i]? = some x) (hk : k ≤ i) : (foP f k)[i]? = some x := by
 rw [foP, List.getElem?_mapIdx, h]
 simp
 intro h1
 omega
theorem foC_get {f : FuI} {i : Nat} {x : InI} (h : f.code[i]? = some x) : (foC f)[i]? = some (foI (foH f i) x) := by rw [foC, List.getElem?_mapIdx, h]; rfl
theorem foP_succ {f : FuI} {k : Nat} {x : InI} (h : f.code[k]? = some x) : foP f (k + 1) = (foP f k).set k (foI (foH f k) x) := by
 have hlt := (List.getElem?_eq_some_iff.1 h).1
 refine List.ext_getElem? fun i => ?_
 rw [List.getElem?_set, foP, foP, List.getElem?_mapIdx, List.getElem?_mapIdx, List.length_mapIdx]
 by_cases e : k = i
 ·subst e
  rw [h, if_pos rfl, if_pos hlt]
  simp
 ·rw [if_neg e]
  cases h2 : f.code[i]? with
  | none => rfl
  | some y =>
   have : (i < k + 1) ↔ (i < k) := by omega
   simp [this]
theorem foI_ways (K : KnF) (x : InI) : foI K x = x ∨ (∃ n, foI K x = cstI x.dst n ∧ (x.op = 4 ∨ x.op = 5 ∨ x.op = 6)) ∨ ∃ t, foI K x = wayI x.too t ∧ x.op = 28 := by
 unfold foI
 by_cases h4 : x.op = 4
 ·rw [if_pos h4]
  cases K x.a with
  | none => exact .inl rfl
  | some a => exact .inr (.inl ⟨_, rfl, .inl h4⟩)
 rw [if_neg h4]
 by_cases h6 : x.op = 6
 ·rw [if_pos h6]
  cases K x.a with
  | none => exact .inl rfl
  | some a => exact .inr (.inl ⟨_, rfl, .inr (.inr h6)⟩)
 rw [if_neg h6]
 by_cases h5 : x.op = 5
 ·rw [if_pos h5]
  cases K x.a with
  | none => exact .inl rfl
  | some a =>
   cases K x.b with
   | none => exact .inl rfl
   | some b => exact .inr (.inl ⟨_, rfl, .inr (.inl h5)⟩)
 rw [if_neg h5]
 by_cases h7 : x.op = 28
 ·rw [if_pos h7]
  cases K x.a with
  | none => exact .inl rfl
  | some a =>
   cases K x.b with
   | none => exact .inl rfl
   | some b => exact .inr (.inr ⟨_, rfl, h7⟩)
 rw [if_neg h7]
 exact .inl rfl
theorem foI_args (K : KnF) (x : InI) : (foI K x).args = x.args ∨ (foI K x).args = [] := by
 rcases foI_ways K x with h | ⟨n, h, _⟩ | ⟨t, h, _⟩
 ·exact .inl (by rw [h])
 ·exact .inr (by rw [h]; rfl)
 ·refine .inr ?_
  rw [h]
  cases t <;> rfl
def foF (f : FuI) : FuI := ⟨f.regs, f.params, f.ret, foC f, f.rows⟩
def foldF (f : FuI) : FuI := if chkN f = 0 then foF f else f
theorem hd_next {f : FuI} {k : Nat} (hk : k < f.code.length) : hmB f k = true ↔ (headsL f)[(hdT f k).length]? = some (k : Int) := by
 have key : ∀ n, k < n → ((hdT f n)[(hdT f k).length]? = some (k : Int) ↔ hmB f k = true) := by
  intro n
  induction n with
  | zero => intro h; omega
  | succ n ih =>
   intro h
   by_cases e : k = n
   ·subst e
    cases hb : hmB f k with
    | true =>
     rw [hdT_yes hb, List.getElem?_append_right (Nat.le_refl _), Nat.sub_self]
     exact ⟨fun _ => rfl, fun _ => rfl⟩
    | false =>
     rw [hdT_no hb, List.getElem?_eq_none (Nat.le_refl _)]
     exact ⟨fun h => (by cases h), fun h => (by cases h)⟩
   ·have hlt : k < n := by omega
    have ih := ih hlt
    have hge : ∀ m, k ≤ m → (hdT f k).length ≤ (hdT f m).length := by
     intro m
     induction m with
     | zero => intro h; rw [show k = 0 by omega]; exact Nat.le_refl _
     | succ m im =>
      intro h
      by_cases e2 : k = m + 1
      ·rw [e2]; exact Nat.le_refl _
      ·have := im (by omega)
       cases hb : hmB f m with
       | true => rw [hdT_yes hb, List.length_append]; omega
       | false => rw [hdT_no hb]; exact this
    cases hb : hmB f n with
    | false => rw [hdT_no hb]; exact ih
    | true =>
     rw [hdT_yes hb]
     by_cases e3 : (hdT f k).length < (hdT f n).length
     ·rw [List.getElem?_append_left e3]; exact ih
     ·have e4 : (hdT f k).length = (hdT f n).length := by have := hge n (by omega); omega
      rw [e4, List.getElem?_append_right (Nat.le_refl _), Nat.sub_self]
      rw [e4, List.getElem?_eq_none (Nat.le_refl _)] at ih
      refine ⟨fun h => ?_, fun h => ?_⟩
      ·have h : some ((n : Nat) : Int) = some (k : Int) := h
       injection h with h
       omega
      ·have := ih.2 h
       cases this
 exact (key _ hk).symm
end Go.Proofs.Ytbkeneadoccodaa
/- Where each place lies in what is trimmed: the program's newPlaces. -/
namespace Go.Proofs.Ytbkeneadoccodaa
open Go.RowKit Go
set_option linter.unusedVariables false
set_option linter.unusedSimpArgs false
def BlE (_ : World) (b : Bool) (c : List Value) : Prop := c = [.bool b]
def stayB (c : List InI) (R : List Bool) (i : Nat) : Bool := match c[i]?, R[i]? with | some x, some b => b && !(x.op == 33) | _, _ => false
def nowN (c : List InI) (R : List Bool) : Nat → Int
 | 0 => 0
 | k + 1 => if stayB c R k then nowN c R k + 1 else nowN c R k
theorem now_at (c : List InI) (R : List Bool) (k : Nat) : 0 ≤ nowN c R k ∧ nowN c R k ≤ k := by
 induction k with
 | zero => exact ⟨Int.le_refl _, Int.le_refl _⟩
 | succ k ih =>
  have h1 := ih.1
  have h2 := ih.2
  unfold nowN
  split
  ·omega
  ·omega
def Nums (w : World) (g m : Nat) (F : Nat → Int) (k : Nat) : Prop := ∃ c : Array Value, w.heap[g]? = some (.cells c 3 (0, 0)) ∧ c.size = m ∧ ∀ j, j < m → ∃ z : Int, c[j]? = some (.int .i64 z) ∧ (j ≤ k → z = F j)
theorem Nums.fz {w : World} {g m : Nat} {F : Nat → Int} {k : Nat} (h : Nums w g m F k) (i : Nat) : w.frozen? ⟨g, i, none⟩ = false := by
 obtain ⟨c, h1, _⟩ := h
 exact heap_thaw h1 i
theorem Nums.lt {w : World} {g m : Nat} {F : Nat → Int} {k : Nat} (h : Nums w g m F k) : g < w.heap.size := by
 obtain ⟨c, h1, _⟩ := h
 exact heap_lt h1
theorem Nums.at' {w : World} {g m : Nat} {F : Nat → Int} {k i : Nat} (h : Nums w g m F k) (hi : i < m) (hk : i ≤ k) : w.cell? ⟨g, i, none⟩ = some (.int .i64 (F i)) := by
 obtain ⟨c, h1, h2, h3⟩ := h
 obtain ⟨z, h4, h5⟩ := h3 i hi
 rw [← h5 hk]
 exact heap_cell h1 h4
theorem Nums.some {w : World} {g m : Nat} {F : Nat → Int} {k i : Nat} (h : Nums w g m F k) (hi : i < m) : ∃ z : Int, w.cell? ⟨g, i, none⟩ = some (.int .i64 z) := by
 obtain ⟨c, h1, h2, h3⟩ := h
 obtain ⟨z, h4, _⟩ := h3 i hi
 exact ⟨z, heap_cell h1 h4⟩
theorem Nums.below {w w' : World} {g m : Nat} {F : Nat → Int} {k : Nat} (h : Nums w g m F k) (hb : Below w.heap.size w w') : Nums w' g m F k := by
 obtain ⟨c, h1, h2⟩ := h
 exact ⟨c, heap_keep h1 hb, h2⟩
theorem Nums.put {w : World} {g m : Nat} {F : Nat → Int} {k i : Nat} (h : Nums w g m F k) (hi : k < i) (z : Int) : Nums (w.setCell ⟨g, i, none⟩ (.int .i64 z)) g m F k := by
 obtain ⟨c, h1, h2, h3⟩ := h
 refine ⟨_, heap_set h1 _, by simpa using h2, fun j hj => ?_⟩
 by_cases e : i = j
 ·subst e
  exact ⟨z, by rw [Array.getElem?_setIfInBounds, if_pos rfl, if_pos (by omega)], fun h => by omega⟩
 ·obtain ⟨y, h4, h5⟩ := h3 j hj
  exact ⟨y, by rw [Array.getElem?_setIfInBounds, if_neg e]; exact h4, h5⟩
theorem Nums.set {w : World} {g m : Nat} {F : Nat → Int} {k : Nat} (h : Nums w g m F k) {z : Int} (hz : z = F (k + 1)) : Nums (w.setCell ⟨g, k + 1, none⟩ (.int .i64 z)) g m F (k + 1) := by
 obtain ⟨c, h1, h2, h3⟩ := h
 refine ⟨_, heap_set h1 _, by simpa using h2, fun j hj => ?_⟩
 by_cases e : k + 1 = j
 ·subst e
  exact ⟨z, by rw [Array.getElem?_setIfInBounds, if_pos rfl, if_pos (by omega)], fun _ => hz⟩
 ·obtain ⟨y, h4, h5⟩ := h3 j hj
  exact ⟨y, by rw [Array.getElem?_setIfInBounds, if_neg e]; exact h4, fun h => h5 (by omega)⟩
theorem Nums.made (w : World) (m : Nat) (F : Nat → Int) (h0 : F 0 = 0) : Nums (w.alloc (.cells (madeCells #[.int .i64 0] m) 3)) w.heap.size m F 0 :=
 ⟨_, heap_alloc_new w _, by rw [size_madeCells], fun i hi => ⟨0, made_at _ _ _ _ hi (by rw [show i % (#[Value.int .i64 0] : Array Value).size = 0 from Nat.mod_one i]; rfl), fun h => by rw [show i = 0 by omega, h0]⟩⟩
theorem make_ints (n : Nat) (hn : n * 8 ≤ 140737488355328) (w : World) :
  (Instr.makeSlice 23 (.int .i64 (n : Int)) (.int .i64 (n : Int))).run Try.prog w = .ok (.slice (some ⟨w.heap.size, 0, none⟩) n n) (w.alloc (.cells (madeCells #[.int .i64 0] n) 3)) := by
 obtain ⟨i0, hi0, hz0, hz1, hz2⟩ := info_parts info_nuP
 have h := run_make (P := Try.prog) w 23 3 i0 _ Try.underlying23 hi0 hz0 .i64 .i64 n n (by omega) (Int.le_refl _) (by rw [hz2]; omega) (by omega)
 rw [h, hz1, Nat.mul_one]
 rfl
theorem nums_own {w : World} {g m B : Nat} {F : Nat → Int} {k : Nat} (h : Nums w g m F k) (hk : m ≤ k + 1) (hB : B ≤ g) (hm : m ≤ maxLen) : OwN w B (.slice (some ⟨g, 0, none⟩) m m) ((List.range m).map F) := by
 obtain ⟨c, h1, h2, h3⟩ := h
 have hc : c.toList = ((List.range m).map F).map vI := by
  apply List.ext_getElem?
  intro j
  by_cases hj : j < m
  ·obtain ⟨z, h4, h5⟩ := h3 j hj
   rw [Array.getElem?_toList, h4, h5 (by omega)]
   simp [hj, vI]
  ·rw [Array.getElem?_toList, Array.getElem?_eq_none (show c.size ≤ j by omega)]
   exact (List.getElem?_eq_none_iff.2 (by simp; omega)).symm
 have hl : ((List.range m).map F).length = m := by simp
 unfold OwN
 rw [hl]
 refine ⟨by simp, .inr ⟨g, m, c, rfl, hB, h1, Nat.le_refl _, hm, by omega, ?_⟩⟩
 rw [← hc]
 exact List.take_of_length_le (by simp; omega)
set_option maxHeartbeats 16000000 in
set_option maxRecDepth 100000 in
theorem newPlaces_any {P Q : Nat → Prop} (f : FuI) (fa fb fd fe : Value) (rv : Value) (R : List Bool) (w : World) (h : Hid (FuV P w f fa fb fd fe)) (hcl : Hid (f.code.length * 96 ≤ 140737488355328)) (hr : Hid (RdX Q 1 BlE w rv R)) (hrl : Hid (R.length = f.code.length)) :
  Calls Try.prog 37 #[fuL fa fb f.ret fd fe, rv] w fun e w' => ∃ v, e = .returned v ∧ OwN w' w.heap.size v ((List.range (f.code.length + 1)).map (nowN f.code R)) ∧ Below w.heap.size w w' := by
 obtain ⟨D, dcap, hD⟩ := h.out.d.shape
 subst hD
 obtain ⟨RA, rc, hRA⟩ := hr.out.shape
 obtain ⟨n, hn⟩ : ∃ n, f.code.length = n := ⟨_, rfl⟩
 have HN := lhid hn
 have hd := h.out.d
 have hrl2 := hrl.out
 have hcl2 := hcl.out
 rw [hn] at hd hrl2 hcl2 ⊢
 rw [hrl2] at hRA
 subst hRA
 have HDD := lhid hd
 clear hn hd hrl2
 obtain ⟨NL, hNL⟩ : ∃ NL, (List.range (n + 1)).map (nowN f.code R) = NL := ⟨_, rfl⟩
 rw [hNL]
 have HNL := lhid hNL
 clear hNL
 have hmake : ∀ w : World, (Instr.makeSlice 23 (.int .i64 ((n : Int) + 1)) (.int .i64 ((n : Int) + 1))).run Try.prog w = .ok (.slice (some ⟨w.heap.size, 0, none⟩) (n + 1) (n + 1)) (w.alloc (.cells (madeCells #[.int .i64 0] (n + 1)) 3)) := fun w => make_ints (n + 1) (by omega) w
 have hc1 : wrap64 ((n : Int) + 1) = (n : Int) + 1 := IntWalk.wrap64_in _ (by omega)
 go_enter Try.func37, Try.ntmps37
 go_wp2_with fail
 have HB0 := lhid ((Below.refl w.heap.size w).alloc (Nat.le_refl _) (.cells #[fa, fb, .int .i64 f.ret, .slice D n dcap, fe] 27))
 have HF0 : Hid (FBox (w.alloc (.cells #[fa, fb, .int .i64 f.ret, .slice D n dcap, fe] 27)) w.heap.size fa fb f.ret (.slice D n dcap) fe) := lhid (heap_alloc_new w _)
 have hm0 := Nums.made (w.alloc (.cells #[fa, fb, .int .i64 f.ret, .slice D n dcap, fe] 27)) (n + 1) (nowN f.code R) rfl
 rw [show (w.alloc (.cells #[fa, fb, .int .i64 f.ret, .slice D n dcap, fe] 27)).heap.size = w.heap.size + 1 by simp] at hm0
 have HM0 := lhid hm0
 have HB1 := lhid (HB0.out.alloc (by simp) (.cells (madeCells #[.int .i64 0] (n + 1)) 3))
 clear hm0 hmake hc1
 go_loopw [16] (fun i wr => ∃ k : Nat, i = .int .i64 k ∧ k ≤ n ∧ Hid (Below w.heap.size w wr) ∧ Hid (Nums wr (w.heap.size + 1) (n + 1) (nowN f.code R) k)) (fun i _ => n - (intOf i).toNat)
 case atStart => exact ⟨0, rfl, Nat.zero_le _, HB1, HM0⟩
 case round =>
  clear HB1 HM0 HF0 HB0
  obtain ⟨k, rfl, hk, HB, HM⟩ := hrel
  by_cases hlt : k < n
  ·
   obtain ⟨x, hx⟩ : ∃ x, f.code[k]? = some x := ⟨_, List.getElem?_eq_getElem (by have := HN.out; omega)⟩
   obtain ⟨g, o, v, hD, _, hv, c0, c1, c2, c3, c4, c5, c6, c7, c8⟩ := in_cells HDD.out hx
   subst hD
   obtain ⟨VA, vc, hv0⟩ := hv.shape
   subst hv0
   obtain ⟨bb, hbb⟩ : ∃ b, R[k]? = some b := ⟨_, List.getElem?_eq_getElem (by have := hrl.out; have := HN.out; omega)⟩
   obtain ⟨rg, ro, rcc, hRA, _, hE, hrc⟩ := hr.out.at' hbb
   have hE : rcc = [.bool bb] := hE
   subst hE
   subst hRA
   have d0 := hrc 0 _ rfl
   rw [Nat.add_zero, Nat.mul_one] at d0
   have hrg : rg < w.heap.size := cell_lt d0
   have n1 : ¬ rg = w.heap.size + 1 := by omega
   have n2 : ¬ w.heap.size + 1 = rg := by omega
   have n3 : rg < wr.heap.size := by have := HB.out.size; omega
   have kc : ∀ {p : Addr} {u : Value}, w.cell? p = some u → wr.cell? p = some u := fun {p u} hq => (HB.out.cell (p := p) (cell_lt hq)).trans hq
   replace c0 := kc c0
   replace c1 := kc c1
   replace c2 := kc c2
   replace c3 := kc c3
   replace c4 := kc c4
   replace c5 := kc c5
   replace c6 := kc c6
   replace c7 := kc c7
   replace c8 := kc c8
   replace d0 := kc d0
   have e0 := HM.out.at' (show k < n + 1 by omega) (Nat.le_refl k)
   obtain ⟨z1, e1⟩ := HM.out.some (show k + 1 < n + 1 by omega)
   have z0 := HM.out.fz (k + 1)
   have gl := HM.out.lt
   have HX := lhid hx
   have HBB := lhid hbb
   have k3 : (k : Int) < n := by omega
   have k4 : (k : Int) < (n : Int) + 1 := by omega
   have k5 : (k : Int) + 1 < (n : Int) + 1 := by omega
   have hwk : wrap64 ((k : Int) + 1) = (k : Int) + 1 := IntWalk.wrap64_in _ (by omega)
   obtain ⟨t, ht⟩ : ∃ t, nowN f.code R k = t := ⟨_, rfl⟩
   have htb := now_at f.code R k
   rw [ht] at e0 htb
   have htw : wrap64 (t + 1) = t + 1 := IntWalk.wrap64_in _ (by omega)
   have HT := lhid ht
   clear hx hbb hrc hv kc ht
   cases bb with
   | false =>
    have HNX : Hid (t = nowN f.code R (k + 1)) := lhid (by unfold nowN stayB; rw [HX.out, HBB.out, ← HT.out]; simp)
    have hb2 := HB.out.setCell (p := ⟨w.heap.size + 1, k + 1, none⟩) (by simp) (.int .i64 t)
    have HB2 := lhid (hb2.alloc hb2.size (.cells #[.int .i64 x.op, .int .i64 x.dst, .int .i64 x.a, .int .i64 x.b, .int .i64 x.c, .int .i64 x.num, .int .i64 x.too, .string (tx x.ref), .slice VA x.args.length vc] 29))
    have HM2 := lhid ((HM.out.set HNX.out).below ((Below.refl _ _).alloc (Nat.le_refl _) (.cells #[.int .i64 x.op, .int .i64 x.dst, .int .i64 x.a, .int .i64 x.b, .int .i64 x.c, .int .i64 x.num, .int .i64 x.too, .string (tx x.ref), .slice VA x.args.length vc] 29)))
    clear hb2
    go_wp2_with fail
    go_roundw
    case rel => exact ⟨k + 1, by go_num, by omega, HB2, HM2⟩
    case measure => simp [intOf]; omega
   | true =>
    cases h33 : (x.op == 33) with
    | true =>
     have HNX : Hid (t = nowN f.code R (k + 1)) := lhid (by unfold nowN stayB; rw [HX.out, HBB.out, ← HT.out]; simp [h33])
     have hb2 := HB.out.setCell (p := ⟨w.heap.size + 1, k + 1, none⟩) (by simp) (.int .i64 t)
     have HB2 := lhid (hb2.alloc hb2.size (.cells #[.int .i64 x.op, .int .i64 x.dst, .int .i64 x.a, .int .i64 x.b, .int .i64 x.c, .int .i64 x.num, .int .i64 x.too, .string (tx x.ref), .slice VA x.args.length vc] 29))
     have HM2 := lhid ((HM.out.set HNX.out).below ((Below.refl _ _).alloc (Nat.le_refl _) (.cells #[.int .i64 x.op, .int .i64 x.dst, .int .i64 x.a, .int .i64 x.b, .int .i64 x.c, .int .i64 x.num, .int .i64 x.too, .string (tx x.ref), .slice VA x.args.length vc] 29)))
     clear hb2
     go_wp2_with fail
     go_roundw
     case rel => exact ⟨k + 1, by go_num, by omega, HB2, HM2⟩
     case measure => simp [intOf]; omega
    | false =>
     have HNX : Hid (t + 1 = nowN f.code R (k + 1)) := lhid (by unfold nowN stayB; rw [HX.out, HBB.out, ← HT.out]; simp [h33])
     have hb2 := HB.out.setCell (p := ⟨w.heap.size + 1, k + 1, none⟩) (by simp) (.int .i64 t)
     have hb3 := hb2.setCell (p := ⟨w.heap.size + 1, k + 1, none⟩) (by simp) (.int .i64 (t + 1))
     have HB2 := lhid (hb3.alloc hb3.size (.cells #[.int .i64 x.op, .int .i64 x.dst, .int .i64 x.a, .int .i64 x.b, .int .i64 x.c, .int .i64 x.num, .int .i64 x.too, .string (tx x.ref), .slice VA x.args.length vc] 29))
     have HM2 := lhid (((HM.out.put (Nat.lt_succ_self k) t).set HNX.out).below ((Below.refl _ _).alloc (Nat.le_refl _) (.cells #[.int .i64 x.op, .int .i64 x.dst, .int .i64 x.a, .int .i64 x.b, .int .i64 x.c, .int .i64 x.num, .int .i64 x.too, .string (tx x.ref), .slice VA x.args.length vc] 29)))
     clear hb2 hb3
     go_wp2_with fail
     go_roundw
     case rel => exact ⟨k + 1, by go_num, by omega, HB2, HM2⟩
     case measure => simp [intOf]; omega
  ·have k3 : ¬ (k : Int) < n := by omega
   have hke : k = n := by omega
   subst hke
   go_wp2_with fail
   go_ret
   refine ⟨_, rfl, ?_, HB.out⟩
   rw [← HNL.out]
   exact nums_own (B := w.heap.size) (g := w.heap.size + 1) HM.out (Nat.le_refl _) (by omega) (by unfold maxLen; omega)
end Go.Proofs.Ytbkeneadoccodaa
/- A function with what is asked of it again and again: the program's webOf. -/
namespace Go.Proofs.Ytbkeneadoccodaa
open Go.RowKit Go
set_option linter.unusedVariables false
set_option linter.unusedSimpArgs false
theorem info_sl : (Try.prog.info? 23).map (fun i => (i.zero, i.size, i.bytes)) = some (some (.slice none 0 0), 1, 24) := by kernel_rfl
theorem make_lists (n : Nat) (hn : n * 24 ≤ 140737488355328) (w : World) :
  (Instr.makeSlice 61 (.int .i64 (n : Int)) (.int .i64 (n : Int))).run Try.prog w = .ok (.slice (some ⟨w.heap.size, 0, none⟩) n n) (w.alloc (.cells (madeCells #[.slice none 0 0] n) 23)) := by
 obtain ⟨i0, hi0, hz0, hz1, hz2⟩ := info_parts info_sl
 have h := run_make (P := Try.prog) w 61 23 i0 _ Try.underlying61 hi0 hz0 .i64 .i64 n n (by omega) (Int.le_refl _) (by rw [hz2]; omega) (by omega)
 rw [h, hz1, Nat.mul_one]
 rfl
def cutB (rows : List RwI) (i : Nat) : Bool := rows.any fun r => r.fr == (i : Int) || r.too == (i : Int)
def strN (rows : List RwI) : Nat → Int
 | 0 => if cutB rows 0 then 1 else 0
 | k + 1 => if cutB rows (k + 1) then strN rows k + 1 else strN rows k
theorem strN_mono (rows : List RwI) (i d : Nat) : strN rows i ≤ strN rows (i + d) := by
 induction d with
 | zero => exact Int.le_refl _
 | succ d ih =>
  have : strN rows (i + d) ≤ strN rows (i + (d + 1)) := by
   have e : strN rows (i + d + 1) = if cutB rows (i + d + 1) then strN rows (i + d) + 1 else strN rows (i + d) := rfl
   show _ ≤ strN rows (i + d + 1)
   rw [e]
   split <;> omega
  omega
theorem strN_same {rows : List RwI} {i j : Nat} (hij : i ≤ j) (h : strN rows i = strN rows j) : ∀ k, i < k → k ≤ j → cutB rows k = false := by
 intro k h1 h2
 cases hc : cutB rows k with
 | false => rfl
 | true =>
  obtain ⟨m, rfl⟩ : ∃ m, k = m + 1 := ⟨k - 1, by omega⟩
  have e1 : strN rows (m + 1) = strN rows m + 1 := by show (if cutB rows (m + 1) then _ else _) = _; rw [hc]; rfl
  have e2 := strN_mono rows i (m - i)
  have e3 := strN_mono rows (m + 1) (j - (m + 1))
  rw [show i + (m - i) = m by omega] at e2
  rw [show m + 1 + (j - (m + 1)) = j by omega] at e3
  omega
theorem about_same {rows : List RwI} {i j : Nat} (hij : i ≤ j) (h : strN rows i = strN rows j) : ∀ r ∈ rows, aboutB r i = aboutB r j := by
 intro r hr
 have hc := strN_same hij h
 have key : ∀ k : Nat, i < k → k ≤ j → r.fr ≠ (k : Int) ∧ r.too ≠ (k : Int) := fun k h1 h2 => by
  have := hc k h1 h2
  unfold cutB at this
  rw [List.any_eq_false] at this
  have := this r hr
  simp at this
  exact this
 unfold aboutB
 rw [Bool.eq_iff_iff]
 simp only [Bool.and_eq_true, decide_eq_true_eq]
 have a1 : r.fr ≤ (i : Int) ↔ r.fr ≤ (j : Int) := by
  constructor
  ·intro h; omega
  ·intro h
   by_cases h9 : r.fr ≤ (i : Int)
   ·exact h9
   ·exact absurd (by omega) (key r.fr.toNat (by omega) (by omega)).1
 have a2 : (i : Int) < r.too ↔ (j : Int) < r.too := by
  constructor
  ·intro h
   by_cases h9 : (j : Int) < r.too
   ·exact h9
   ·exact absurd (by omega) (key r.too.toNat (by omega) (by omega)).2
  ·intro h; omega
 rw [a1, a2]
theorem catL_same {rows : List RwI} {i j : Int} (h : ∀ r ∈ rows, aboutB r i = aboutB r j) : catL rows i = catL rows j := by
 induction rows with
 | nil => rfl
 | cons r l ih =>
  have h1 := h r List.mem_cons_self
  have h2 := ih fun r hr => h r (List.mem_cons_of_mem _ hr)
  cases ha : aboutB r j with
  | true => rw [catL_yes (by rw [h1]; exact ha), catL_yes ha, h2]
  | false => rw [catL_no (by rw [h1]; exact ha), catL_no ha, h2]
theorem stretch_same {rows : List RwI} {i j : Nat} (h : strN rows i = strN rows j) : catL rows (i : Int) = catL rows (j : Int) := by
 rcases Nat.le_total i j with hij | hij
 ·exact catL_same (about_same hij h)
 ·exact (catL_same (about_same hij h.symm)).symm
end Go.Proofs.Ytbkeneadoccodaa
