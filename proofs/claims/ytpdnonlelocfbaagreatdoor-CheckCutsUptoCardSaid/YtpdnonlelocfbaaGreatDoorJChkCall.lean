/- Package check: call. -/
import Derived.Test.YtpdnonlelocfbaaGreatDoorJChkCallee
import Derived.Test.YtpdnonlelocfbaaGreatDoorM3
import Derived.RangeFuncNested
import Derived.RangeFuncBound
import Derived.RangeFuncCalls
import Derived.RangeFuncLeaves
import Derived.OwnWalkIn
import Derived.TacticsInMore
import Derived.LoopNIn
import Derived.LoopIn
import Derived.Shelf.Abstract
namespace Go.Proofs.YtpdnonlelocfbaaGreatDoor
open Go.RowKit Go Go.Maps
attribute [local go_sem] Oper.semAt_some
set_option linter.unusedVariables false
section
variable {E : Chk} {Z : Nat → Prop} {wT : World} {c : Nat} {F : Fx} {N : Nat} {s : Cs} {kn : Bool} {st : Value} {w : World}
theorem Ck.boxP (h : Ck E Z wT c F N s kn st w) {w1 : World} (hb : Below w.heap.size w w1) (P : Nat → Prop) (hP : ∀ k, P k → w.heap.size ≤ k ∧ k < w1.heap.size) : Ck E (fun k => Z k ∧ ¬ P k) wT c F N s kn st w1 := by
  have h1 := h.below hb
  have hne : ∀ k, k < w.heap.size → ¬ P k := fun k hk hp => by have := hP k hp; omega
  obtain ⟨vl, vs, hc, hl, hs, hd⟩ := h.it
  refine ⟨h1.std, fun k hk => h.low k hk.1, fun k hk => ⟨h1.new k hk, fun hp => by have := hP k hp; omega⟩, ⟨h.cz, hne c (heap_lt hc)⟩, ⟨h.bz, hne _ h.ask.lt⟩, ⟨vl, vs, (hb.block _ (heap_lt hc)).trans hc, ?_, ?_, hd⟩, h1.ask⟩
  · have := hl.below hb
    exact ⟨this.row, fun k hk => ⟨hl.zone k hk, hne k (hl.row.lt k hk).2⟩, this.small⟩
  · have := hs.below hb
    exact ⟨this.row, fun k hk => ⟨hs.zone k hk, hne k (hs.row.lt k hk).2⟩, this.small⟩
/-- What may turn from w on: what is new, what are cells, and the one map. -/
def Zt (Z : Nat → Prop) (w : World) (b : Nat) : Nat → Prop := fun k => Z k ∧ (w.heap.size ≤ k ∨ k = b ∨ ∃ cs t f, w.heap[k]? = some (.cells cs t f))
theorem own_cells {T e size n : Nat} {v : Value} {xs : List Value} (h : w.ownsRow T e size v n xs) {k : Nat} (hk : v.ownBlock = some k) : ∃ cs t f, w.heap[k]? = some (.cells cs t f) := by
  rcases h.2 with ⟨rfl, _⟩ | ⟨g, cap, cur, rfl, _, h3, _⟩
  · cases hk
  · injection hk with hk
    subst hk
    exact ⟨_, _, _, h3⟩
theorem Ck.tight (h : Ck E Z wT c F N s kn st w) : Ck E (Zt Z w F.cb) wT c F N s kn st w := by
  obtain ⟨vl, vs, hc, hl, hs, hd⟩ := h.it
  exact ⟨h.std, fun k hk => h.low k hk.1, fun k hk => ⟨h.new k hk, .inl hk⟩, ⟨h.cz, .inr (.inr ⟨_, _, _, hc⟩)⟩, ⟨h.bz, .inr (.inl rfl)⟩, ⟨vl, vs, hc, ⟨hl.row, fun k hk => ⟨hl.zone k hk, .inr (.inr (own_cells hl.row hk))⟩, hl.small⟩, ⟨hs.row, fun k hk => ⟨hs.zone k hk, .inr (.inr (own_cells hs.row hk))⟩, hs.small⟩, hd⟩, h.ask⟩
theorem zt_keep {b : Nat} {w' : World} (hc : Ch (Zt Z w b) w w') {k : Nat} {o : Obj} (h : w.heap[k]? = some o) (ho : o.isCells = false) (hb : k ≠ b) : w'.heap[k]? = some o :=
  hc.keep h fun hz => by
    rcases hz.2 with h1 | h1 | ⟨cs, t, f, h1⟩
    · have := heap_lt h; omega
    · exact hb h1
    · rw [h] at h1; injection h1 with h1; rw [h1] at ho; cases ho
/-- A turn of a block that is no cells, beyond B, turns no checker. -/
theorem Ck.other_obj (h : Ck E Z wT c F N s kn st w) {B : Nat} (hT : wT.heap.size ≤ B) (hB : F.cb < B) {w' : World} {row : Option Nat} (hg : w.grownBy w' row) (hr : ∀ r, row = some r → B ≤ r ∧ ∃ o : Obj, w.heap[r]? = some o ∧ o.isCells = false) : Ck E Z wT c F N s kn st w' := by
  obtain ⟨vl, vs, hc, hl, hs, hd⟩ := h.it
  have hcell : ∀ {k : Nat} {cs : Array Value} {t : TypeId} {f : Nat × Nat}, w.heap[k]? = some (.cells cs t f) → w'.heap[k]? = w.heap[k]? := fun {k} {cs} {t} {f} hk => hg.block k (heap_lt hk) fun e => by
    obtain ⟨_, o, h1, h2⟩ := hr k e.symm
    rw [hk] at h1
    injection h1 with h1
    rw [← h1] at h2
    cases h2
  have hown : ∀ {v : Value} {l : List Bs}, Ow Z wT.heap.size w v l → Ow Z wT.heap.size w' v l := fun ho => ho.of fun g hg' => by
    obtain ⟨_, _, _, h1⟩ := own_cells ho.row hg'
    exact hcell h1
  exact ⟨Below.grown h.std hg h.std.size (fun k e => Nat.le_trans hT (hr k e).1), h.low, fun k hk => h.new k (Nat.le_trans hg.size hk), h.cz, h.bz, ⟨vl, vs, (hcell hc).trans hc, hown hl, hown hs, hd⟩, h.ask.of (hg.block _ h.ask.lt (fun e => by have := (hr _ e.symm).1; omega))⟩
def callP (s : Cs) (E : Chk) (o : Int) (t g : Bs) : Cs :=
  let s := if o = 182 ∨ o = 185 then s.pop E (E.of t) else if o = 183 then s.pop E E.own else s
  if g = [86] then s else (s.know E g).push E g
theorem call_eq (s : Cs) (E : Chk) (o : Int) (a : Nat) : s.call E o a = callP (Cs.params E (E.metD (s.callee E o a).1.desc).1.reverse (s.callee E o a).2) E o (s.callee E o a).1.text (E.metD (s.callee E o a).1.desc).2 := rfl
theorem params_app (E : Chk) (t : Bs) : ∀ (l : List Bs) (s : Cs), Cs.params E (l ++ [t]) s = ((Cs.params E l s).know E t).pop E t
  | [], _ => rfl
  | u :: l, s => params_app E t l _
set_option maxHeartbeats 4000000 in
set_option maxRecDepth 100000 in
theorem call_c (HE : Hid (Env E F.tb wT)) (HF : Hid (Fit E F wT)) (HC : Hid (Ck E Z wT c F N s kn st w)) (p o : Int) (a : Nat) (q : Int) (ha : a ≤ 4294967296) (hN : N ≤ 8589934592) :
    Calls Tryz.prog 171 #[.pointer (some ⟨c, 0, none⟩), .agg #[.int .i64 p, .int .i64 o, .int .i64 a, .int .i64 q]] w (CkOut E Z wT c F (N + 1) (s.call E o a) kn st w (.returned (.tuple #[]))) := by
  have hb00 : Below w.heap.size w (w.alloc (.cells #[.pointer (some ⟨c, 0, none⟩)] 173)) := (Below.refl _ _).alloc (Nat.le_refl _) _
  have hb0 : Below w.heap.size w ((w.alloc (.cells #[.pointer (some ⟨c, 0, none⟩)] 173)).alloc (.cells #[.int .i64 p, .int .i64 o, .int .i64 a, .int .i64 q] 187)) := hb00.alloc hb00.size _
  have hb01 : Below (w.alloc (.cells #[.pointer (some ⟨c, 0, none⟩)] 173)).heap.size (w.alloc (.cells #[.pointer (some ⟨c, 0, none⟩)] 173)) ((w.alloc (.cells #[.pointer (some ⟨c, 0, none⟩)] 173)).alloc (.cells #[.int .i64 p, .int .i64 o, .int .i64 a, .int .i64 q] 187)) := (Below.refl _ _).alloc (Nat.le_refl _) _
  have hsz : (w.alloc (.cells #[.pointer (some ⟨c, 0, none⟩)] 173)).heap.size = w.heap.size + 1 := by simp
  have hz0 : ((w.alloc (.cells #[.pointer (some ⟨c, 0, none⟩)] 173)).alloc (.cells #[.int .i64 p, .int .i64 o, .int .i64 a, .int .i64 q] 187)).heap[w.heap.size]? = some (.cells #[.pointer (some ⟨c, 0, none⟩)] 173 (0, 0)) := (Below.heap_alloc _ _ _ (by simp)).trans (heap_alloc_new w (.cells #[.pointer (some ⟨c, 0, none⟩)] 173))
  have hz1 : ((w.alloc (.cells #[.pointer (some ⟨c, 0, none⟩)] 173)).alloc (.cells #[.int .i64 p, .int .i64 o, .int .i64 a, .int .i64 q] 187)).heap[w.heap.size + 1]? = some (.cells #[.int .i64 p, .int .i64 o, .int .i64 a, .int .i64 q] 187 (0, 0)) := by
    have := heap_alloc_new (w.alloc (.cells #[.pointer (some ⟨c, 0, none⟩)] 173)) (.cells #[.int .i64 p, .int .i64 o, .int .i64 a, .int .i64 q] 187)
    rw [hsz] at this
    exact this
  have HB0 := lhid hb0
  have HZ0 := lhid hz0
  have HZ1 := lhid hz1
  have HK0 : Hid (Ck E (fun k => (Z k ∧ k ≠ w.heap.size) ∧ k ≠ w.heap.size + 1) wT c F N s kn st ((w.alloc (.cells #[.pointer (some ⟨c, 0, none⟩)] 173)).alloc (.cells #[.int .i64 p, .int .i64 o, .int .i64 a, .int .i64 q] 187))) := lhid ((HC.out.box hb00 (Nat.le_refl _) (by simp)).box hb01 (by rw [hsz]; exact Nat.le_refl _) (by simp))
  have b0 : ((w.alloc (.cells #[.pointer (some ⟨c, 0, none⟩)] 173)).alloc (.cells #[.int .i64 p, .int .i64 o, .int .i64 a, .int .i64 q] 187)).cell? ⟨w.heap.size, 0, none⟩ = some (.pointer (some ⟨c, 0, none⟩)) := heap_cell hz0 rfl
  have b1 : ((w.alloc (.cells #[.pointer (some ⟨c, 0, none⟩)] 173)).alloc (.cells #[.int .i64 p, .int .i64 o, .int .i64 a, .int .i64 q] 187)).cell? ⟨w.heap.size + 1, 0, none⟩ = some (.int .i64 p) := heap_cell hz1 rfl
  have b2 : ((w.alloc (.cells #[.pointer (some ⟨c, 0, none⟩)] 173)).alloc (.cells #[.int .i64 p, .int .i64 o, .int .i64 a, .int .i64 q] 187)).cell? ⟨w.heap.size + 1, 1, none⟩ = some (.int .i64 o) := heap_cell hz1 rfl
  have b3 : ((w.alloc (.cells #[.pointer (some ⟨c, 0, none⟩)] 173)).alloc (.cells #[.int .i64 p, .int .i64 o, .int .i64 a, .int .i64 q] 187)).cell? ⟨w.heap.size + 1, 2, none⟩ = some (.int .i64 a) := heap_cell hz1 rfl
  have b4 : ((w.alloc (.cells #[.pointer (some ⟨c, 0, none⟩)] 173)).alloc (.cells #[.int .i64 p, .int .i64 o, .int .i64 a, .int .i64 q] 187)).cell? ⟨w.heap.size + 1, 3, none⟩ = some (.int .i64 q) := heap_cell hz1 rfl
  clear hb00 hb0 hb01 hsz hz0 hz1
  have hCA : s.call E o a = s.call E o a := rfl
  refine (callsIn_wide (n := 8)).1 ?_
  refine callsIn_of_wp_marks Tryz.func171 rfl trivial ?_ rfl
  simp only [Tryz.ntmps171, List.size_toArray, List.length_cons, List.length_nil, Nat.reduceAdd, Nat.reduceSub, Array.replicate_succ, Array.replicate_zero, List.push_toArray, List.append_toArray, List.nil_append, List.cons_append]
  refine wpIn_wide.2 ?_
  go_upto_region 1 with fail
  generalize ((w.alloc (.cells #[.pointer (some ⟨c, 0, none⟩)] 173)).alloc (.cells #[.int .i64 p, .int .i64 o, .int .i64 a, .int .i64 q] 187)) = w0 at *
  go_wp2_with fail
  with_reducible refine (callee_c HE HF HK0 p o a q ha hN).mono ?_
  rintro e w1 ⟨rfl, hk, hc⟩
  obtain ⟨x, hx⟩ : ∃ x, (s.callee E o a).1 = x := ⟨_, rfl⟩
  obtain ⟨s1, hs1⟩ : ∃ x, (s.callee E o a).2 = x := ⟨_, rfl⟩
  rw [hx]
  rw [hs1] at hk
  have HXS := lhid (And.intro hx hs1)
  have hxd : x.desc.length ≤ 4294967296 ∧ x.text.length ≤ 4294967296 := by
    rw [← hx, callee_eq s E o a _ rfl]
    have h1 := pooled_small HE.out s a [if o = 185 then 11 else 10]
    exact ⟨h1.2, h1.1⟩
  unfold coV
  have HKb := lhid (hk.box ((Below.refl w1.heap.size w1).alloc (Nat.le_refl _) (.cells #[.int .i64 x.kind, .int .i64 x.num, .string (tx x.text), .string (tx x.name), .string (tx x.desc)] 213)) (Nat.le_refl _) (by simp))
  have HZX := lhid (heap_alloc_new w1 (.cells #[.int .i64 x.kind, .int .i64 x.num, .string (tx x.text), .string (tx x.name), .string (tx x.desc)] 213))
  have HW1 := lhid ((Below.refl w1.heap.size w1).alloc (Nat.le_refl _) (.cells #[.int .i64 x.kind, .int .i64 x.num, .string (tx x.text), .string (tx x.name), .string (tx x.desc)] 213))
  have HKB1 := lhid ((HW1.out.block _ (heap_lt (hc.keep HZ0.out (fun h => h.1.2 rfl)))).trans (hc.keep HZ0.out (fun h => h.1.2 rfl)))
  have HOB1 := lhid ((HW1.out.block _ (heap_lt (hc.keep HZ1.out (fun h => h.2 rfl)))).trans (hc.keep HZ1.out (fun h => h.2 rfl)))
  have HT2 := lhid (((Ch.of (X := Z) HB0.out).tr (hc.mono fun _ _ h => h.1.1)).tr (Ch.of HW1.out))
  have HXD := lhid hxd
  clear hx hs1 hk hc hxd b0 b1 b2 b3 b4
  go_upto_region 2 with fail
  generalize w1.alloc (.cells #[.int .i64 x.kind, .int .i64 x.num, .string (tx x.text), .string (tx x.name), .string (tx x.desc)] 213) = w2 at *
  have x4 := heap_cell (i := 4) HZX.out rfl
  go_wp2_with fail
  with_reducible refine (HE.out.metD x.desc w2 (Nat.le_trans HXD.out.1 (by decide))).mono ?_
  rintro e w3 ⟨v, g, f, rfl, hg, hrow, hb3⟩
  have hlm := HE.out.l_met x.desc
  obtain ⟨zs, hzs⟩ : ∃ y, (E.metD x.desc).1 = y := ⟨_, rfl⟩
  rw [hzs] at hrow hlm
  rw [← hg] at hlm
  have hz : ∀ t ∈ zs, t.length ≤ ML := fun t ht => Nat.le_trans (hlm.1 t ht) (Nat.le_trans HXD.out.1 (by decide))
  have hgl : g.length ≤ ML := Nat.le_trans hlm.2.2 (Nat.le_trans (Nat.add_le_add_right HXD.out.1 1) (by decide))
  have HZS := lhid (And.intro hzs (And.intro hz (And.intro hlm.2.1 (And.intro hg hgl))))
  obtain ⟨A, cap, rfl⟩ := own_shape hrow
  have HROW := lhid hrow
  have HW3 := lhid hb3
  clear hrow hg hb3 x4 hlm hz hgl hzs
  go_wp2_with fail
  with_reducible refine (backward_c A zs.length cap w3).mono ?_
  rintro e w9 ⟨rfl, rfl⟩
  have hW0s : (w3.alloc (.cells #[.slice A zs.length cap] 34)).heap.size = w3.heap.size + 1 := by simp
  have hbc := heap_alloc_new w3 (.cells #[.slice A zs.length cap] 34)
  have hb4 : Below w2.heap.size w2 (w3.alloc (.cells #[.slice A zs.length cap] 34)) := HW3.out.alloc HW3.out.size _
  have hpb : ∃ pb, w2.heap.size ≤ pb ∧ pb < w3.heap.size + 1 ∧ ((Value.slice A zs.length cap = .slice none 0 0 ∧ zs = []) ∨ ∃ cap', Value.slice A zs.length cap = .slice (some ⟨pb, 0, none⟩) zs.length cap' ∧ pb < (w3.alloc (.cells #[.slice A zs.length cap] 34)).heap.size ∧ ∀ j t, zs[j]? = some t → (w3.alloc (.cells #[.slice A zs.length cap] 34)).cell? ⟨pb, j, none⟩ = some (.string (tx t))) := by
    rcases HROW.out.2 with ⟨h1, h2⟩ | ⟨g1, cap1, cur, h1, h2, h3, _⟩
    · exact ⟨w3.heap.size, HW3.out.size, by omega, .inl ⟨h1, List.length_eq_zero_iff.1 h2⟩⟩
    · have hlt := heap_lt h3
      refine ⟨g1, h2, by omega, .inr ⟨cap1, h1, by omega, fun j t ht => ?_⟩⟩
      have := HROW.out.cells (g := g1) (by rw [h1]; rfl) j (.string (tx t)) (by simp [ht])
      rw [addr_add, Nat.zero_add] at this
      exact (cell_heap (Below.heap_alloc w3 _ g1 hlt) j).trans this
  obtain ⟨pb, hpb1, hpb2, hI⟩ := hpb
  have HKL : Hid (Ck E (fun k => (((Z k ∧ k ≠ w.heap.size) ∧ k ≠ w.heap.size + 1) ∧ k ≠ w1.heap.size) ∧ ¬ (k = pb ∨ k = w3.heap.size)) wT c F (N + 1) s1 kn st (w3.alloc (.cells #[.slice A zs.length cap] 34))) := lhid (HKb.out.boxP hb4 (fun k => k = pb ∨ k = w3.heap.size) (fun k hk => by
    have h9 := HW3.out.size
    rcases hk with rfl | rfl
    · exact ⟨hpb1, by omega⟩
    · exact ⟨h9, by omega⟩))
  have hc0 : (w3.alloc (.cells #[.slice A zs.length cap] 34)).cell? ⟨w3.heap.size, 0, none⟩ = some (.slice A zs.length cap) := heap_cell hbc rfl
  have HKB2 := lhid ((hb4.block _ (heap_lt HKB1.out)).trans HKB1.out)
  have HOB2 := lhid ((hb4.block _ (heap_lt HOB1.out)).trans HOB1.out)
  have HXB2 := lhid ((hb4.block _ (heap_lt HZX.out)).trans HZX.out)
  have HT4 := lhid (HT2.out.tr (Ch.of hb4))
  have HSL := lhid (backward_stops Fence.wide 7 trivial rfl (by decide) w3.heap.size pb (.slice A zs.length cap) zs HZS.out.2.1 HZS.out.2.2.1 (w3.alloc (.cells #[.slice A zs.length cap] 34)) (by omega) hc0 hI)
  have hTB : wT.heap.size ≤ (w3.alloc (.cells #[.slice A zs.length cap] 34)).heap.size := HKL.out.std.size
  have hCB : F.cb < (w3.alloc (.cells #[.slice A zs.length cap] 34)).heap.size := HKL.out.ask.lt
  have HPB := lhid (And.intro hpb1 hpb2)
  have HTB := lhid (And.intro hTB (And.intro hCB hW0s))
  clear hbc hb4 hI hc0 hpb1 hpb2 hTB hCB hW0s
  go_wp2_with fail
  generalize w3.alloc (.cells #[.slice A zs.length cap] 34) = wL at *
  refine (wpIn_wide (n := 8)).1 ?_
  refine wpIn_rangeFunc_ownG (F := Fence.wide) (n := 8) rfl (by decide) (gf := 242) (lb := #[.pointer (some ⟨w3.heap.size, 0, none⟩)]) rfl trivial (enters_of Tryz.func242 (by kernel_rfl) rfl) HSL.out
    (fun h k i hi => (k i hi).trans (h i hi))
    (fun W l o o' hl _ _ _ i hi => World.putObj_heap_other (by have h9 := HPB.out.2; have h8 := HTB.out.2.2; rcases hi with rfl | rfl <;> omega))
    (Below.refl _ _) (fun _ => rfl)
    (fun pre W => Ck E (fun k => (((Z k ∧ k ≠ w.heap.size) ∧ k ≠ w.heap.size + 1) ∧ k ≠ w1.heap.size) ∧ ¬ (k = pb ∨ k = w3.heap.size)) wT c F (N + 1) (Cs.params E (pre.map (fun x : BwT => x.1.2)) s1) kn st W ∧ Ch (fun k => (((Z k ∧ k ≠ w.heap.size) ∧ k ≠ w.heap.size + 1) ∧ k ≠ w1.heap.size) ∧ ¬ (k = pb ∨ k = w3.heap.size)) wL W)
    (fun _ _ _ => False)
    (fun pre W W' row hs hg hr => ⟨hs.1.other_obj HTB.out.1 HTB.out.2.1 hg hr, hs.2.trans (Y := fun k => row = some k) ⟨hg.os, hg.tape, hg.output, hg.size, fun k hk hne => hg.block k hk (fun e => hne e.symm)⟩ (fun i hi e => absurd hi (by have := (hr i e).1; omega))⟩)
    (fun _ _ _ _ _ hs _ _ => hs)
    ⟨HKL.out, Ch.refl _ _⟩
    (fun y => { tmps := #[.pointer (some ⟨c, 0, none⟩), .agg #[.int .i64 p, .int .i64 o, .int .i64 a, .int .i64 q], .pointer (some ⟨w.heap.size, 0, none⟩), .pointer (some ⟨w.heap.size + 1, 0, none⟩), .pointer (some ⟨w1.heap.size, 0, none⟩), .slice A zs.length cap, .string (tx g), .int .i64 f, undef, .string (tx y.1.2), .pointer (some ⟨c, 0, none⟩), .agg #[.int .i64 p, .int .i64 o, .int .i64 a, .int .i64 q], .agg #[.int .i64 x.kind, .int .i64 x.num, .string (tx x.text), .string (tx x.name), .string (tx x.desc)], .tuple #[.slice A zs.length cap, .string (tx g), .int .i64 f], .pointer (some ⟨w1.heap.size, 4, none⟩), .string (tx x.desc), .tuple #[.slice A zs.length cap, .string (tx g), .int .i64 f], .slice A zs.length cap, .string (tx g), .int .i64 f, .slice A zs.length cap, .func (.func 242) #[] #[.pointer (some ⟨w3.heap.size, 0, none⟩)], .int .i64 y.1.1, .string (tx y.1.2), undef, undef, undef, undef, undef, undef, undef, undef, undef, undef, undef, undef, undef, undef, undef, undef, undef, undef, undef, undef, undef, undef, undef, undef, undef, undef, undef, undef, undef, undef, undef], defers := [] }) ?assign ?body ?done ?stop
  case assign =>
    intro l y W K hK
    dsimp only [bwE]
    gi_wp2
    exact hK
  case body =>
    rintro l pre y W ⟨hk, hch⟩ _
    have HKr := lhid hk.tight
    have HKk := lhid hk
    have HCk := lhid hch
    have kb := heap_cell (i := 0) (hch.keep HKB2.out (fun h => h.1.1.1.2 rfl)) rfl
    clear hk hch
    have HKB3 := lhid (HCk.out.keep HKB2.out (fun h => h.1.1.1.2 rfl))
    gi_wp2_with (first | (refine ⟨trivial, ?_⟩; gi_at_call 219; refine (CallsIn.inRound l (callsIn_wide.2 (know_c HE HKr y.1.2 y.2))).mono ?_; rintro e W1 ⟨rfl, hk1, hc1⟩; have kb1 := heap_cell (i := 0) (hc1.keep HKB3.out (fun h => h.1.1.1.1.2 rfl)) rfl) | (refine ⟨trivial, ?_⟩; gi_at_call 211; refine (CallsIn.inRound l (callsIn_wide.2 (pop_c HE (lhid hk1) y.1.2 y.2))).mono ?_; rintro e W2 ⟨rfl, hk2, hc2⟩))
    have hcA := hc1.tr hc2
    refine ⟨⟨hcA.size, fun k o hk1 ho1 ho2 => zt_keep hcA ho1 ho2 (by have := HTB.out.2.1; omega)⟩, fun k hk => ?_, ?_, HCk.out.tr (hcA.mono fun _ _ h => h.1)⟩
    · have hlt : k < W.heap.size := by
        have h1 := HCk.out.size
        have h2 := HPB.out.2
        have h3 := HTB.out.2.2
        rcases hk with rfl | rfl <;> omega
      exact hcA.block k hlt (fun h => h.1.2 hk)
    · rw [List.map_append, List.map_cons, List.map_nil, params_app]
      exact hk2.unbox HKk.out (fun _ h => h.1) hcA.size
  case done =>
    rintro D xs W hD hS ⟨hk, hch⟩ hKD
    rw [show xs.map (fun x : BwT => x.1.2) = zs.reverse from hS] at hk
    have hCE := call_eq s E o a
    rw [HXS.out.1, HXS.out.2, HZS.out.1, ← HZS.out.2.2.2.1] at hCE
    obtain ⟨s2, hs2⟩ : ∃ q, Cs.params E zs.reverse s1 = q := ⟨_, rfl⟩
    rw [hs2] at hk hCE
    have HCE := lhid hCE
    have HKk := lhid hk
    have HKr := lhid hk.tight
    have HKd := lhid hk.tight.drew
    have HCk := lhid hch
    have HKD := lhid hKD
    have HDD := lhid hD
    have HKB3 := lhid (hch.keep HKB2.out (fun h => h.1.1.1.2 rfl))
    have HOB3 := lhid (hch.keep HOB2.out (fun h => h.1.1.2 rfl))
    have HXB3 := lhid (hch.keep HXB2.out (fun h => h.1.2 rfl))
    have HOL : Hid ((E.of x.text).length ≤ ML) := lhid (by have h2 := HE.out.l_of x.text; have h3 : (4294967296 : Nat) + 2 ≤ ML := (by decide); have := HXD.out.2; omega)
    have o1 := heap_cell (i := 1) HOB3.out rfl
    clear hk hch hKD hD hCE hs2
    dsimp only
    by_cases h0 : o = 182
    · have d0 : (o == 182) = true := by rw [h0]; rfl
      have HP : Hid (callP s2 E o x.text g = if g = [86] then s2.pop E (E.of x.text) else ((s2.pop E (E.of x.text)).know E g).push E g) := lhid (by unfold callP; dsimp only; rw [if_pos (show o = 182 ∨ o = 185 from .inl h0)])
      clear h0
      have HSS : Hid (∀ w', Ch (Zt (fun k => (((Z k ∧ k ≠ w.heap.size) ∧ k ≠ w.heap.size + 1) ∧ k ≠ w1.heap.size) ∧ ¬ (k = pb ∨ k = w3.heap.size)) W F.cb) W w' → (w'.cell? ⟨w.heap.size, 0, none⟩ = some (.pointer (some ⟨c, 0, none⟩)) ∧ w'.cell? ⟨w1.heap.size, 2, none⟩ = some (.string (tx x.text)))) := lhid (fun w' hc => ⟨heap_cell (hc.keep HKB3.out (fun h => h.1.1.1.1.2 rfl)) rfl, heap_cell (hc.keep HXB3.out (fun h => h.1.1.2 rfl)) rfl⟩)
      go_upto_region 10 with fail
      go_region_held3 (fun w' => w'.cell? ⟨w.heap.size, 0, none⟩ = some (.pointer (some ⟨c, 0, none⟩)) ∧ w'.cell? ⟨w1.heap.size, 2, none⟩ = some (.string (tx x.text))) (first | with_reducible exact HSS.out _ (Ch.drew (Ch.refl _ _)) | with_reducible exact HSS.out _ hc5) (first
        | ((with_reducible refine (HE.out.of x.text _ (Nat.le_trans HXD.out.2 (by decide))).mono ?_); rintro e w9 ⟨rfl, rfl⟩)
        | ((with_reducible refine (pop_c HE HKd (E.of x.text) HOL.out).mono ?_); rintro e W5 ⟨rfl, hk5, hc5'⟩; have hc5 := (Ch.drew (Ch.refl (Zt (fun k => (((Z k ∧ k ≠ w.heap.size) ∧ k ≠ w.heap.size + 1) ∧ k ≠ w1.heap.size) ∧ ¬ (k = pb ∨ k = w3.heap.size)) W F.cb) W)).tr hc5'))
      have HK5 := lhid hk5
      have HC5 := lhid hc5
      clear hk5 hc5 hc5'
      by_cases hg0 : g = [86]
      · have HR : Hid (s.call E o a = s2.pop E (E.of x.text)) := lhid (by rw [HCE.out, HP.out, if_pos hg0])
        have d9 : ((tx g).toList == [86]) = true := by rw [tx_toL, hg0]; rfl
        clear hg0
        go_wp2_with fail
        have hKE := zt_keep HC5.out HKD.out rfl (by have := HTB.out.2.1; have := HDD.out; omega)
        refine ⟨by simp, .inl ⟨_, _, rfl, run_takeDeferred hKE, ?_⟩⟩
        have hgr := grownBy_putObj' W5 D (.deferred none)
        have hkF := (HK5.out.unbox HKk.out (fun _ h => h.1) HC5.out.size).other_obj HTB.out.1 HTB.out.2.1 hgr (fun r e => by injection e with e; subst e; exact ⟨HDD.out, _, hKE, rfl⟩)
        have hcF : Ch Z w _ := ((HT4.out.tr (HCk.out.mono fun _ _ h => h.1.1.1.1)).tr (HC5.out.mono fun _ _ h => h.1.1.1.1.1)).grown hgr (fun k e hk => absurd hk (by injection e with e; subst e; have h1 := HT4.out.size; have h2 := HDD.out; omega))
        rw [HR.out]
        refine ⟨_, results_none rfl _ _ _, rfl, hkF.unbox HC.out (fun _ h => h.1.1.1.1) hcF.size, hcF⟩
      · have HR : Hid (s.call E o a = ((s2.pop E (E.of x.text)).know E g).push E g) := lhid (by rw [HCE.out, HP.out, if_neg hg0])
        have d9 : ((tx g).toList == [86]) = false := by rw [tx_toL, beq_eq_false_iff_ne]; exact hg0
        clear hg0
        have kx := heap_cell (i := 0) (HC5.out.keep HKB3.out (fun h => h.1.1.1.1.2 rfl)) rfl
        go_wp2_with fail
        with_reducible refine (know_c HE HK5 g HZS.out.2.2.2.2).mono ?_
        rintro e W6 ⟨rfl, hk6, hc6⟩
        have HK6 := lhid hk6
        have HC6 := lhid (HC5.out.tr hc6)
        clear hk6 hc6 kx
        have kx := heap_cell (i := 0) (HC6.out.keep HKB3.out (fun h => h.1.1.1.1.2 rfl)) rfl
        go_wp2_with fail
        with_reducible refine (push1_c HE HF HK6 (txb g) HZS.out.2.2.2.2).mono ?_
        rintro e W7 ⟨rfl, hk7, hc7⟩
        have HK7 := lhid hk7
        have HC7 := lhid (HC6.out.tr hc7)
        clear hk7 hc7 kx
        go_wp2_with fail
        have hKE := zt_keep HC7.out HKD.out rfl (by have := HTB.out.2.1; have := HDD.out; omega)
        refine ⟨by simp, .inl ⟨_, _, rfl, run_takeDeferred hKE, ?_⟩⟩
        have hgr := grownBy_putObj' W7 D (.deferred none)
        have hkF := (HK7.out.unbox HKk.out (fun _ h => h.1) HC7.out.size).other_obj HTB.out.1 HTB.out.2.1 hgr (fun r e => by injection e with e; subst e; exact ⟨HDD.out, _, hKE, rfl⟩)
        have hcF : Ch Z w _ := ((HT4.out.tr (HCk.out.mono fun _ _ h => h.1.1.1.1)).tr (HC7.out.mono fun _ _ h => h.1.1.1.1.1)).grown hgr (fun k e hk => absurd hk (by injection e with e; subst e; have h1 := HT4.out.size; have h2 := HDD.out; omega))
        rw [HR.out]
        refine ⟨_, results_none rfl _ _ _, rfl, hkF.unbox HC.out (fun _ h => h.1.1.1.1) hcF.size, hcF⟩
    by_cases h1 : o = 185
    · have d0 := ne_beq h0
      have d1 : (o == 185) = true := by rw [h1]; rfl
      have HP : Hid (callP s2 E o x.text g = if g = [86] then s2.pop E (E.of x.text) else ((s2.pop E (E.of x.text)).know E g).push E g) := lhid (by unfold callP; dsimp only; rw [if_pos (show o = 182 ∨ o = 185 from .inr h1)])
      clear h0 h1
      have HSS : Hid (∀ w', Ch (Zt (fun k => (((Z k ∧ k ≠ w.heap.size) ∧ k ≠ w.heap.size + 1) ∧ k ≠ w1.heap.size) ∧ ¬ (k = pb ∨ k = w3.heap.size)) W F.cb) W w' → (w'.cell? ⟨w.heap.size, 0, none⟩ = some (.pointer (some ⟨c, 0, none⟩)) ∧ w'.cell? ⟨w1.heap.size, 2, none⟩ = some (.string (tx x.text)))) := lhid (fun w' hc => ⟨heap_cell (hc.keep HKB3.out (fun h => h.1.1.1.1.2 rfl)) rfl, heap_cell (hc.keep HXB3.out (fun h => h.1.1.2 rfl)) rfl⟩)
      go_upto_region 10 with fail
      go_region_held3 (fun w' => w'.cell? ⟨w.heap.size, 0, none⟩ = some (.pointer (some ⟨c, 0, none⟩)) ∧ w'.cell? ⟨w1.heap.size, 2, none⟩ = some (.string (tx x.text))) (first | with_reducible exact HSS.out _ (Ch.drew (Ch.refl _ _)) | with_reducible exact HSS.out _ hc5) (first
        | ((with_reducible refine (HE.out.of x.text _ (Nat.le_trans HXD.out.2 (by decide))).mono ?_); rintro e w9 ⟨rfl, rfl⟩)
        | ((with_reducible refine (pop_c HE HKd (E.of x.text) HOL.out).mono ?_); rintro e W5 ⟨rfl, hk5, hc5'⟩; have hc5 := (Ch.drew (Ch.refl (Zt (fun k => (((Z k ∧ k ≠ w.heap.size) ∧ k ≠ w.heap.size + 1) ∧ k ≠ w1.heap.size) ∧ ¬ (k = pb ∨ k = w3.heap.size)) W F.cb) W)).tr hc5'))
      have HK5 := lhid hk5
      have HC5 := lhid hc5
      clear hk5 hc5 hc5'
      by_cases hg0 : g = [86]
      · have HR : Hid (s.call E o a = s2.pop E (E.of x.text)) := lhid (by rw [HCE.out, HP.out, if_pos hg0])
        have d9 : ((tx g).toList == [86]) = true := by rw [tx_toL, hg0]; rfl
        clear hg0
        go_wp2_with fail
        have hKE := zt_keep HC5.out HKD.out rfl (by have := HTB.out.2.1; have := HDD.out; omega)
        refine ⟨by simp, .inl ⟨_, _, rfl, run_takeDeferred hKE, ?_⟩⟩
        have hgr := grownBy_putObj' W5 D (.deferred none)
        have hkF := (HK5.out.unbox HKk.out (fun _ h => h.1) HC5.out.size).other_obj HTB.out.1 HTB.out.2.1 hgr (fun r e => by injection e with e; subst e; exact ⟨HDD.out, _, hKE, rfl⟩)
        have hcF : Ch Z w _ := ((HT4.out.tr (HCk.out.mono fun _ _ h => h.1.1.1.1)).tr (HC5.out.mono fun _ _ h => h.1.1.1.1.1)).grown hgr (fun k e hk => absurd hk (by injection e with e; subst e; have h1 := HT4.out.size; have h2 := HDD.out; omega))
        rw [HR.out]
        refine ⟨_, results_none rfl _ _ _, rfl, hkF.unbox HC.out (fun _ h => h.1.1.1.1) hcF.size, hcF⟩
      · have HR : Hid (s.call E o a = ((s2.pop E (E.of x.text)).know E g).push E g) := lhid (by rw [HCE.out, HP.out, if_neg hg0])
        have d9 : ((tx g).toList == [86]) = false := by rw [tx_toL, beq_eq_false_iff_ne]; exact hg0
        clear hg0
        have kx := heap_cell (i := 0) (HC5.out.keep HKB3.out (fun h => h.1.1.1.1.2 rfl)) rfl
        go_wp2_with fail
        with_reducible refine (know_c HE HK5 g HZS.out.2.2.2.2).mono ?_
        rintro e W6 ⟨rfl, hk6, hc6⟩
        have HK6 := lhid hk6
        have HC6 := lhid (HC5.out.tr hc6)
        clear hk6 hc6 kx
        have kx := heap_cell (i := 0) (HC6.out.keep HKB3.out (fun h => h.1.1.1.1.2 rfl)) rfl
        go_wp2_with fail
        with_reducible refine (push1_c HE HF HK6 (txb g) HZS.out.2.2.2.2).mono ?_
        rintro e W7 ⟨rfl, hk7, hc7⟩
        have HK7 := lhid hk7
        have HC7 := lhid (HC6.out.tr hc7)
        clear hk7 hc7 kx
        go_wp2_with fail
        have hKE := zt_keep HC7.out HKD.out rfl (by have := HTB.out.2.1; have := HDD.out; omega)
        refine ⟨by simp, .inl ⟨_, _, rfl, run_takeDeferred hKE, ?_⟩⟩
        have hgr := grownBy_putObj' W7 D (.deferred none)
        have hkF := (HK7.out.unbox HKk.out (fun _ h => h.1) HC7.out.size).other_obj HTB.out.1 HTB.out.2.1 hgr (fun r e => by injection e with e; subst e; exact ⟨HDD.out, _, hKE, rfl⟩)
        have hcF : Ch Z w _ := ((HT4.out.tr (HCk.out.mono fun _ _ h => h.1.1.1.1)).tr (HC7.out.mono fun _ _ h => h.1.1.1.1.1)).grown hgr (fun k e hk => absurd hk (by injection e with e; subst e; have h1 := HT4.out.size; have h2 := HDD.out; omega))
        rw [HR.out]
        refine ⟨_, results_none rfl _ _ _, rfl, hkF.unbox HC.out (fun _ h => h.1.1.1.1) hcF.size, hcF⟩
    by_cases h2 : o = 183
    · have d0 := ne_beq h0
      have d1 := ne_beq h1
      have d2 : (o == 183) = true := by rw [h2]; rfl
      have HP : Hid (callP s2 E o x.text g = if g = [86] then s2.pop E E.own else ((s2.pop E E.own).know E g).push E g) := lhid (by unfold callP; dsimp only; rw [if_neg (not_or.2 ⟨h0, h1⟩), if_pos h2])
      clear h0 h1 h2
      have HSS : Hid (∀ w', Ch (Zt (fun k => (((Z k ∧ k ≠ w.heap.size) ∧ k ≠ w.heap.size + 1) ∧ k ≠ w1.heap.size) ∧ ¬ (k = pb ∨ k = w3.heap.size)) W F.cb) W w' → w'.cell? ⟨w.heap.size, 0, none⟩ = some (.pointer (some ⟨c, 0, none⟩))) := lhid (fun w' hc => heap_cell (hc.keep HKB3.out (fun h => h.1.1.1.1.2 rfl)) rfl)
      go_upto_region 12 with fail
      go_region_held3 (fun w' => w'.cell? ⟨w.heap.size, 0, none⟩ = some (.pointer (some ⟨c, 0, none⟩))) (first | with_reducible exact HSS.out _ (Ch.drew (Ch.refl _ _)) | with_reducible exact HSS.out _ hc5) (first
        | ((with_reducible refine (ownType_c HE HF HKd).mono ?_); rintro e w9 ⟨rfl, rfl⟩)
        | ((with_reducible refine (pop_c HE HKd E.own HE.out.l_own).mono ?_); rintro e W5 ⟨rfl, hk5, hc5'⟩; have hc5 := (Ch.drew (Ch.refl (Zt (fun k => (((Z k ∧ k ≠ w.heap.size) ∧ k ≠ w.heap.size + 1) ∧ k ≠ w1.heap.size) ∧ ¬ (k = pb ∨ k = w3.heap.size)) W F.cb) W)).tr hc5'))
      have HK5 := lhid hk5
      have HC5 := lhid hc5
      clear hk5 hc5 hc5'
      by_cases hg0 : g = [86]
      · have HR : Hid (s.call E o a = s2.pop E E.own) := lhid (by rw [HCE.out, HP.out, if_pos hg0])
        have d9 : ((tx g).toList == [86]) = true := by rw [tx_toL, hg0]; rfl
        clear hg0
        go_wp2_with fail
        have hKE := zt_keep HC5.out HKD.out rfl (by have := HTB.out.2.1; have := HDD.out; omega)
        refine ⟨by simp, .inl ⟨_, _, rfl, run_takeDeferred hKE, ?_⟩⟩
        have hgr := grownBy_putObj' W5 D (.deferred none)
        have hkF := (HK5.out.unbox HKk.out (fun _ h => h.1) HC5.out.size).other_obj HTB.out.1 HTB.out.2.1 hgr (fun r e => by injection e with e; subst e; exact ⟨HDD.out, _, hKE, rfl⟩)
        have hcF : Ch Z w _ := ((HT4.out.tr (HCk.out.mono fun _ _ h => h.1.1.1.1)).tr (HC5.out.mono fun _ _ h => h.1.1.1.1.1)).grown hgr (fun k e hk => absurd hk (by injection e with e; subst e; have h1 := HT4.out.size; have h2 := HDD.out; omega))
        rw [HR.out]
        refine ⟨_, results_none rfl _ _ _, rfl, hkF.unbox HC.out (fun _ h => h.1.1.1.1) hcF.size, hcF⟩
      · have HR : Hid (s.call E o a = ((s2.pop E E.own).know E g).push E g) := lhid (by rw [HCE.out, HP.out, if_neg hg0])
        have d9 : ((tx g).toList == [86]) = false := by rw [tx_toL, beq_eq_false_iff_ne]; exact hg0
        clear hg0
        have kx := heap_cell (i := 0) (HC5.out.keep HKB3.out (fun h => h.1.1.1.1.2 rfl)) rfl
        go_wp2_with fail
        with_reducible refine (know_c HE HK5 g HZS.out.2.2.2.2).mono ?_
        rintro e W6 ⟨rfl, hk6, hc6⟩
        have HK6 := lhid hk6
        have HC6 := lhid (HC5.out.tr hc6)
        clear hk6 hc6 kx
        have kx := heap_cell (i := 0) (HC6.out.keep HKB3.out (fun h => h.1.1.1.1.2 rfl)) rfl
        go_wp2_with fail
        with_reducible refine (push1_c HE HF HK6 (txb g) HZS.out.2.2.2.2).mono ?_
        rintro e W7 ⟨rfl, hk7, hc7⟩
        have HK7 := lhid hk7
        have HC7 := lhid (HC6.out.tr hc7)
        clear hk7 hc7 kx
        go_wp2_with fail
        have hKE := zt_keep HC7.out HKD.out rfl (by have := HTB.out.2.1; have := HDD.out; omega)
        refine ⟨by simp, .inl ⟨_, _, rfl, run_takeDeferred hKE, ?_⟩⟩
        have hgr := grownBy_putObj' W7 D (.deferred none)
        have hkF := (HK7.out.unbox HKk.out (fun _ h => h.1) HC7.out.size).other_obj HTB.out.1 HTB.out.2.1 hgr (fun r e => by injection e with e; subst e; exact ⟨HDD.out, _, hKE, rfl⟩)
        have hcF : Ch Z w _ := ((HT4.out.tr (HCk.out.mono fun _ _ h => h.1.1.1.1)).tr (HC7.out.mono fun _ _ h => h.1.1.1.1.1)).grown hgr (fun k e hk => absurd hk (by injection e with e; subst e; have h1 := HT4.out.size; have h2 := HDD.out; omega))
        rw [HR.out]
        refine ⟨_, results_none rfl _ _ _, rfl, hkF.unbox HC.out (fun _ h => h.1.1.1.1) hcF.size, hcF⟩
    · have d0 := ne_beq h0
      have d1 := ne_beq h1
      have d2 := ne_beq h2
      have HP : Hid (callP s2 E o x.text g = if g = [86] then s2 else ((s2).know E g).push E g) := lhid (by unfold callP; dsimp only; rw [if_neg (not_or.2 ⟨h0, h1⟩), if_neg h2])
      clear h0 h1 h2
      have HCr := lhid (Ch.refl (Zt (fun k => (((Z k ∧ k ≠ w.heap.size) ∧ k ≠ w.heap.size + 1) ∧ k ≠ w1.heap.size) ∧ ¬ (k = pb ∨ k = w3.heap.size)) W F.cb) W)
      by_cases hg0 : g = [86]
      · have HR : Hid (s.call E o a = s2) := lhid (by rw [HCE.out, HP.out, if_pos hg0])
        have d9 : ((tx g).toList == [86]) = true := by rw [tx_toL, hg0]; rfl
        clear hg0
        go_wp2_with fail
        have hKE := zt_keep HCr.out HKD.out rfl (by have := HTB.out.2.1; have := HDD.out; omega)
        refine ⟨by simp, .inl ⟨_, _, rfl, run_takeDeferred hKE, ?_⟩⟩
        have hgr := grownBy_putObj' W D (.deferred none)
        have hkF := (HKr.out.unbox HKk.out (fun _ h => h.1) HCr.out.size).other_obj HTB.out.1 HTB.out.2.1 hgr (fun r e => by injection e with e; subst e; exact ⟨HDD.out, _, hKE, rfl⟩)
        have hcF : Ch Z w _ := ((HT4.out.tr (HCk.out.mono fun _ _ h => h.1.1.1.1)).tr (HCr.out.mono fun _ _ h => h.1.1.1.1.1)).grown hgr (fun k e hk => absurd hk (by injection e with e; subst e; have h1 := HT4.out.size; have h2 := HDD.out; omega))
        rw [HR.out]
        refine ⟨_, results_none rfl _ _ _, rfl, hkF.unbox HC.out (fun _ h => h.1.1.1.1) hcF.size, hcF⟩
      · have HR : Hid (s.call E o a = ((s2).know E g).push E g) := lhid (by rw [HCE.out, HP.out, if_neg hg0])
        have d9 : ((tx g).toList == [86]) = false := by rw [tx_toL, beq_eq_false_iff_ne]; exact hg0
        clear hg0
        have kx := heap_cell (i := 0) (HCr.out.keep HKB3.out (fun h => h.1.1.1.1.2 rfl)) rfl
        go_wp2_with fail
        with_reducible refine (know_c HE HKr g HZS.out.2.2.2.2).mono ?_
        rintro e W6 ⟨rfl, hk6, hc6⟩
        have HK6 := lhid hk6
        have HC6 := lhid (HCr.out.tr hc6)
        clear hk6 hc6 kx
        have kx := heap_cell (i := 0) (HC6.out.keep HKB3.out (fun h => h.1.1.1.1.2 rfl)) rfl
        go_wp2_with fail
        with_reducible refine (push1_c HE HF HK6 (txb g) HZS.out.2.2.2.2).mono ?_
        rintro e W7 ⟨rfl, hk7, hc7⟩
        have HK7 := lhid hk7
        have HC7 := lhid (HC6.out.tr hc7)
        clear hk7 hc7 kx
        go_wp2_with fail
        have hKE := zt_keep HC7.out HKD.out rfl (by have := HTB.out.2.1; have := HDD.out; omega)
        refine ⟨by simp, .inl ⟨_, _, rfl, run_takeDeferred hKE, ?_⟩⟩
        have hgr := grownBy_putObj' W7 D (.deferred none)
        have hkF := (HK7.out.unbox HKk.out (fun _ h => h.1) HC7.out.size).other_obj HTB.out.1 HTB.out.2.1 hgr (fun r e => by injection e with e; subst e; exact ⟨HDD.out, _, hKE, rfl⟩)
        have hcF : Ch Z w _ := ((HT4.out.tr (HCk.out.mono fun _ _ h => h.1.1.1.1)).tr (HC7.out.mono fun _ _ h => h.1.1.1.1.1)).grown hgr (fun k e hk => absurd hk (by injection e with e; subst e; have h1 := HT4.out.size; have h2 := HDD.out; omega))
        rw [HR.out]
        refine ⟨_, results_none rfl _ _ _, rfl, hkF.unbox HC.out (fun _ h => h.1.1.1.1) hcF.size, hcF⟩
  case stop =>
    rintro D c pre W _ _ h _
    exact h.elim
end
end Go.Proofs.YtpdnonlelocfbaaGreatDoor
