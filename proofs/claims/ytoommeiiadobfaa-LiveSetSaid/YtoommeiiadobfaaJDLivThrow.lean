/- The places that throw, stretch by stretch: the program's throwing. -/
import Derived.Test.YtoommeiiadobfaaDM14
import Derived.Test.YtoommeiiadobfaaJDFlwWebOf
import Derived.Deep.RegionHeld3
namespace Go.Proofs.Ytoommeiiadobfaa
open Go.RowKit Go
set_option linter.unusedVariables false
set_option linter.unusedSimpArgs false
structure ThI (f : FuI) (k : Nat) (bg : Bool) (TH : List (List Int)) : Prop where
 some' : ∀ l ∈ TH, l ≠ [] ∧ ∀ z ∈ l, ∃ i : Nat, z = i ∧ i < k ∧ ∃ x, f.code[i]? = some x ∧ throwsB x.op = true
 one : ∀ l ∈ TH, ∀ i j : Nat, (i : Int) ∈ l → (j : Int) ∈ l → strN f.rows i = strN f.rows j
 all : ∀ i x, i < k → f.code[i]? = some x → throwsB x.op = true → ∃ l ∈ TH, (i : Int) ∈ l
 last : bg = false → ∃ L0 l, TH = L0 ++ [l] ∧ ∀ i : Nat, (i : Int) ∈ l → strN f.rows i = strB f.rows k
 len : TH.length ≤ k ∧ ∀ l ∈ TH, l.length ≤ k
theorem ThI.begin (f : FuI) : ThI f 0 true [] := ⟨fun l h => (by cases h), fun l h => (by cases h), fun i x h => by omega, fun h => (by cases h), by simp, fun l h => (by cases h)⟩
theorem ThI.skip {f : FuI} {k : Nat} {bg : Bool} {TH : List (List Int)} {x : InI} (h : ThI f k bg TH) (hx : f.code[k]? = some x) (ht : throwsB x.op = false) : ThI f (k + 1) (bg || cutB f.rows k) TH where
 some' l hl := ⟨(h.some' l hl).1, fun z hz => by obtain ⟨i, h1, h2, h3⟩ := (h.some' l hl).2 z hz; exact ⟨i, h1, by omega, h3⟩⟩
 one := h.one
 all i y hi hy hty := by
  by_cases e : i = k
  ·subst e
   rw [hx] at hy
   injection hy with hy
   subst hy
   rw [ht] at hty
   cases hty
  ·exact h.all i y (by omega) hy hty
 last hb := by
  rw [Bool.or_eq_false_iff] at hb
  obtain ⟨L0, l, h1, h2⟩ := h.last hb.1
  refine ⟨L0, l, h1, fun i hi => ?_⟩
  rw [h2 i hi]
  show _ = strN f.rows k
  rw [strN_step, hb.2]
  rfl
 len := ⟨by have := h.len.1; omega, fun l hl => by have := h.len.2 l hl; omega⟩
theorem ThI.new {f : FuI} {k : Nat} {bg : Bool} {TH : List (List Int)} {x : InI} (h : ThI f k bg TH) (hx : f.code[k]? = some x) (ht : throwsB x.op = true) : ThI f (k + 1) false (TH ++ [[(k : Int)]]) where
 some' l hl := by
  rcases List.mem_append.1 hl with hl | hl
  ·exact ⟨(h.some' l hl).1, fun z hz => by obtain ⟨i, h1, h2, h3⟩ := (h.some' l hl).2 z hz; exact ⟨i, h1, by omega, h3⟩⟩
  ·rw [List.mem_singleton] at hl
   subst hl
   exact ⟨by simp, fun z hz => ⟨k, List.mem_singleton.1 hz, by omega, x, hx, ht⟩⟩
 one l hl i j hi hj := by
  rcases List.mem_append.1 hl with hl | hl
  ·exact h.one l hl i j hi hj
  ·rw [List.mem_singleton] at hl
   subst hl
   have h1 := List.mem_singleton.1 hi
   have h2 := List.mem_singleton.1 hj
   rw [show i = j by omega]
 all i y hi hy hty := by
  by_cases e : i = k
  ·subst e
   exact ⟨[(i : Int)], by simp, by simp⟩
  ·obtain ⟨l, h1, h2⟩ := h.all i y (by omega) hy hty
   exact ⟨l, List.mem_append_left _ h1, h2⟩
 last _ := ⟨TH, [(k : Int)], rfl, fun i hi => by
  have h1 := List.mem_singleton.1 hi
  rw [show i = k by omega]
  rfl⟩
 len := ⟨by have := h.len.1; simp; omega, fun l hl => by
  rcases List.mem_append.1 hl with hl | hl
  ·have := h.len.2 l hl; omega
  ·rw [List.mem_singleton] at hl
   subst hl
   simp⟩
theorem ThI.more {f : FuI} {k : Nat} {L0 : List (List Int)} {l : List Int} {x : InI} (h : ThI f k false (L0 ++ [l])) (hx : f.code[k]? = some x) (ht : throwsB x.op = true) (hc : cutB f.rows k = false) : ThI f (k + 1) false (L0 ++ [l ++ [(k : Int)]]) := by
 have hl : ∀ i : Nat, (i : Int) ∈ l → strN f.rows i = strB f.rows k := by
  obtain ⟨L1, l1, h1, h2⟩ := h.last rfl
  have e := List.append_inj' h1 rfl
  have e2 : l = l1 := by have := e.2; simpa using this
  rw [e2]
  exact h2
 have hk : strN f.rows k = strB f.rows k := by rw [strN_step, hc]; rfl
 refine ⟨fun m hm => ?_, fun m hm i j hi hj => ?_, fun i y hi hy hty => ?_, fun _ => ⟨L0, _, rfl, fun i hi => ?_⟩, by have := h.len.1; simp at this ⊢; omega, fun m hm => ?_⟩
 ·rcases List.mem_append.1 hm with hm | hm
  ·have h3 := h.some' m (List.mem_append_left _ hm)
   exact ⟨h3.1, fun z hz => by obtain ⟨i, h4, h5, h6⟩ := h3.2 z hz; exact ⟨i, h4, by omega, h6⟩⟩
  ·rw [List.mem_singleton] at hm
   subst hm
   refine ⟨by simp, fun z hz => ?_⟩
   rcases List.mem_append.1 hz with hz | hz
   ·obtain ⟨i, h4, h5, h6⟩ := (h.some' l (by simp)).2 z hz
    exact ⟨i, h4, by omega, h6⟩
   ·exact ⟨k, List.mem_singleton.1 hz, by omega, x, hx, ht⟩
 ·rcases List.mem_append.1 hm with hm | hm
  ·exact h.one m (List.mem_append_left _ hm) i j hi hj
  ·rw [List.mem_singleton] at hm
   subst hm
   have key : ∀ i : Nat, (i : Int) ∈ l ++ [(k : Int)] → strN f.rows i = strB f.rows k := fun i hi => by
    rcases List.mem_append.1 hi with hi | hi
    ·exact hl i hi
    ·have h1 := List.mem_singleton.1 hi
     rw [show i = k by omega]
     exact hk
   rw [key i hi, key j hj]
 ·by_cases e : i = k
  ·subst e
   exact ⟨l ++ [(i : Int)], by simp, by simp⟩
  ·obtain ⟨m, h1, h2⟩ := h.all i y (by omega) hy hty
   rcases List.mem_append.1 h1 with h1 | h1
   ·exact ⟨m, List.mem_append_left _ h1, h2⟩
   ·rw [List.mem_singleton] at h1
    subst h1
    exact ⟨m ++ [(k : Int)], by simp, List.mem_append_left _ h2⟩
 ·show _ = strN f.rows k
  rcases List.mem_append.1 hi with hi | hi
  ·rw [hl i hi, hk]
  ·have h1 := List.mem_singleton.1 hi
   rw [show i = k by omega]
 ·rcases List.mem_append.1 hm with hm | hm
  ·have := h.len.2 m (List.mem_append_left _ hm); omega
  ·rw [List.mem_singleton] at hm
   subst hm
   have := h.len.2 l (by simp)
   simp
   omega
def ThOut (f : FuI) (n : Nat) (w : World) (e : Ending) (w' : World) : Prop := ∃ (v : Value) (TH : List (List Int)) (bg : Bool), e = .returned v ∧ OwLL w' w.heap.size v TH ∧ ThI f n bg TH ∧ Below w.heap.size w w'
theorem info_ls : (Try.prog.info? 22).map (fun i => (i.zero, i.size, i.bytes)) = some (some (.slice none 0 0), 1, 24) := by kernel_rfl
set_option maxHeartbeats 16000000 in
set_option maxRecDepth 100000 in
theorem throwing_any {P : Nat → Prop} (f : FuI) (n : Nat) (hn : f.code.length = n) (fa fb fd fe : Value) (w : World) (h : Hid (FuV P w f fa fb fd fe)) (hcl : Hid ((f.code.length + 1) * 1024 ≤ 140737488355328)) (hrow : Hid (∀ r ∈ f.rows, (0 ≤ r.fr ∧ r.fr ≤ n) ∧ (0 ≤ r.too ∧ r.too ≤ n))) :
  Calls Try.prog 51 #[fuL fa fb f.ret fd fe] w fun e w' => ThOut f n w e w' := by
 obtain ⟨FA, ac, hFA⟩ := h.out.a.shape
 subst hFA
 obtain ⟨FB, bc, hFB⟩ := h.out.b.shape
 subst hFB
 obtain ⟨D, dcap, hD⟩ := h.out.d.shape
 subst hD
 obtain ⟨E, ecap, hE⟩ := h.out.e.shape
 subst hE
 have HN := lhid hn
 have hcl2 := hcl.out
 have hf2 := h.out
 have hel := h.out.e.len
 rw [hn] at hcl2 hf2 ⊢
 have HFU := lhid hf2
 clear hn hf2 h
 have hmk : ∀ w : World, (Instr.makeSlice 81 (.int .i64 ((n : Int) + 1)) (.int .i64 ((n : Int) + 1))).run Try.prog w = .ok (.slice (some ⟨w.heap.size, 0, none⟩) (n + 1) (n + 1)) (w.alloc (.cells (madeCells #[.bool false] (n + 1)) 4)) := fun w => make_bools (n + 1) (by omega) w
 have hw1 : wrap64 ((n : Int) + 1) = (n : Int) + 1 := IntWalk.wrap64_in _ (by omega)
 go_enter Try.func51, Try.ntmps51
 go_wp2_with fail
 generalize hW : World.alloc _ _ = w2
 obtain ⟨B0, hB0⟩ : ∃ B0, B0 = w.heap.size := ⟨_, rfl⟩
 obtain ⟨w1, hw1e⟩ : ∃ w1, w1 = w.alloc (.cells #[.slice FA f.regs.length ac, .slice FB f.params.length bc, .int .i64 f.ret, .slice D n dcap, .slice E f.rows.length ecap] 26) := ⟨_, rfl⟩
 rw [← hw1e] at hW
 have hb1 : Below w.heap.size w w1 := by rw [hw1e]; exact (Below.refl _ _).alloc (Nat.le_refl _) _
 have hF1 : FBox w1 B0 (.slice FA f.regs.length ac) (.slice FB f.params.length bc) f.ret (.slice D n dcap) (.slice E f.rows.length ecap) := by rw [hw1e, hB0]; exact heap_alloc_new w _
 have hs1 : w1.heap.size = B0 + 1 := by rw [hw1e, hB0]; simp
 have hb2 : Below w1.heap.size w1 w2 := by rw [← hW]; exact (Below.refl _ _).alloc (Nat.le_refl _) _
 have hM2 : Marks w2 (B0 + 1) (n + 1) (atL (cutL f.rows 0)) := by
  have h9 := Marks.made w1 (n + 1) _ rfl (atL (cutL f.rows 0)) (by intro i h; simp [atL, cutL] at h) (n + 1) rfl
  rw [hW, hs1] at h9
  exact h9
 rw [show w.heap.size + 1 = B0 + 1 by rw [hB0]]
 rw [← hB0]
 have HB0 := lhid hB0
 have HF2 : Hid (FBox w2 B0 (.slice FA f.regs.length ac) (.slice FB f.params.length bc) f.ret (.slice D n dcap) (.slice E f.rows.length ecap)) := lhid (heap_keep hF1 hb2)
 have HM2 := lhid hM2
 have HBW := lhid (hb1.trans (hb2.mono hb1.size))
 have HS2 : Hid (w2.heap.size = B0 + 2) := lhid (by rw [← hW]; simp [hs1])
 clear hW hw1e hb1 hF1 hs1 hb2 hM2 hB0 hmk hw1
 go_loopg [19] f.rows.length (fun g i wr => ∃ k : Nat, g = f.rows.length - k ∧ i = .int .i64 k ∧ k ≤ f.rows.length ∧ Hid (Ch (fun b => b = B0 + 1) w2 wr) ∧ Hid (Marks wr (B0 + 1) (n + 1) (atL (cutL f.rows k))))
 case atStart => exact ⟨0, rfl, rfl, Nat.zero_le _, lhid (Ch.refl _ _), HM2⟩
 case round =>
  clear HM2
  obtain ⟨k, rfl, rfl, hk, HC, HM⟩ := hrel
  have HFr : Hid (FBox wr B0 (.slice FA f.regs.length ac) (.slice FB f.params.length bc) f.ret (.slice D n dcap) (.slice E f.rows.length ecap)) := lhid (HC.out.keep HF2.out (by omega))
  by_cases hlt : k < f.rows.length
  ·have k3 : (k : Int) < f.rows.length := by omega
   have hwk : wrap64 ((k : Int) + 1) = ((k + 1 : Nat) : Int) := by rw [IntWalk.wrap64_in _ (by omega)]; omega
   obtain ⟨r, hx⟩ : ∃ r, f.rows[k]? = some r := ⟨_, List.getElem?_eq_getElem hlt⟩
   obtain ⟨ge, oe, hD, c0, c1, c2, c3⟩ := rw_cells HFU.out.e hx
   subst hD
   obtain ⟨⟨h1, h2⟩, h3, h4⟩ := hrow.out r (List.mem_of_getElem? hx)
   obtain ⟨jf, hjf⟩ : ∃ j : Nat, r.fr = j := ⟨r.fr.toNat, by omega⟩
   obtain ⟨jt, hjt⟩ : ∃ j : Nat, r.too = j := ⟨r.too.toNat, by omega⟩
   rw [hjf] at c0 h2
   rw [hjt] at c1 h4
   have hbr : Below w.heap.size w wr := HBW.out.trans (HC.out.to (by have := HS2.out; have := HB0.out; omega) (fun b hb => by have := HB0.out; omega))
   have kc : ∀ {p : Addr} {u : Value}, w.cell? p = some u → wr.cell? p = some u := fun {p u} hq => (hbr.cell (p := p) (cell_lt hq)).trans hq
   replace c0 := kc c0
   replace c1 := kc c1
   replace c2 := kc c2
   replace c3 := kc c3
   have hgl : ge < wr.heap.size := cell_lt c0
   have b1 : (jf : Int) < (n : Int) + 1 := by omega
   have b2 : (jt : Int) < (n : Int) + 1 := by omega
   have HX := lhid hx
   have HJ : Hid (r.fr = jf ∧ r.too = jt ∧ jf < n + 1 ∧ jt < n + 1) := lhid ⟨hjf, hjt, by omega, by omega⟩
   clear hx kc h1 h2 h3 h4 hjf hjt hbr
   go_upto_region 5 with fail
   generalize hW : World.alloc _ _ = w3
   obtain ⟨rb, hrb⟩ : ∃ rb, rb = wr.heap.size := ⟨_, rfl⟩
   rw [← hrb]
   have HRB : Hid (w3.heap[rb]? = some (.cells #[.int .i64 jf, .int .i64 jt, .int .i64 r.at_, .string (tx r.cls)] 56 (0, 0))) := lhid (by rw [← hW, hrb]; exact heap_alloc_new wr _)
   have hb3 : Below wr.heap.size wr w3 := by rw [← hW]; exact (Below.refl _ _).alloc (Nat.le_refl _) _
   have HM3 := lhid (HM.out.below hb3)
   have HC3 := lhid (HC.out.below hb3)
   have HRN : Hid (B0 + 1 < rb) := lhid (by have := HC.out.size; have := HS2.out; omega)
   clear hW hrb hb3 c0 c1 c2 c3 hgl
   obtain ⟨wz, hwz⟩ : ∃ wz, wz = w3.drew := ⟨_, rfl⟩
   have hbz : Below w3.heap.size w3 wz := by rw [hwz]; exact Below.drew' (Below.refl _ _)
   have HMz := lhid (HM3.out.below hbz)
   have HCz := lhid (HC3.out.below hbz)
   have HRz : Hid (wz.heap[rb]? = some (.cells #[.int .i64 jf, .int .i64 jt, .int .i64 r.at_, .string (tx r.cls)] 56 (0, 0))) := lhid (heap_keep HRB.out hbz)
   obtain ⟨v1, hv1, _⟩ := HMz.out.cell HJ.out.2.2.1
   obtain ⟨v2, hv2, _⟩ := HMz.out.cell HJ.out.2.2.2
   have f1 := HMz.out.fz jf
   have f2 := HMz.out.fz jt
   have l1 := HMz.out.lt
   have HCELL : Hid (∀ w' : World, w'.heap[rb]? = wz.heap[rb]? → w'.cell? ⟨rb, 0, none⟩ = some (.int .i64 jf) ∧ w'.cell? ⟨rb, 1, none⟩ = some (.int .i64 jt)) := lhid (fun w' hw' => ⟨heap_cell (hw'.trans HRz.out) rfl, heap_cell (hw'.trans HRz.out) rfl⟩)
   refine wp_region_held_drew (S := fun w' => w'.heap[rb]? = wz.heap[rb]?) (by kernel_rfl) (by rw [hwz]) ?_
   intro hS0
   rw [← hwz] at hS0 ⊢
   clear hwz hbz HM3 HC3 HRB
   refine wpAnyH_take (i := 0) (v := ?tv1) rfl (by kernel_rfl) (by kernel_rfl) (by kernel_rfl) (fun _ _ _ h => h) (Or.inl ⟨by rfl, ?ty1⟩) hS0 ?tr1
   case ty1 => (intro w' hw'; obtain ⟨y0, y1⟩ := HCELL.out w' hw'; go_simp; try with_reducible rfl)
   try simp only [List.getElem_toArray, List.getElem_cons_zero, List.getElem_cons_succ]
   try simp only [Act.put, List.setIfInBounds_toArray, List.set_cons_zero, List.set_cons_succ]
   refine wpAnyH_take (i := 1) (v := ?tv2) rfl (by kernel_rfl) (by kernel_rfl) (by kernel_rfl) (fun _ _ _ h => h) (Or.inl ⟨by rfl, ?ty2⟩) hS0 ?tr2
   case ty2 => (intro w' hw'; obtain ⟨y0, y1⟩ := HCELL.out w' hw'; go_simp; try with_reducible rfl)
   try simp only [List.getElem_toArray, List.getElem_cons_zero, List.getElem_cons_succ]
   try simp only [Act.put, List.setIfInBounds_toArray, List.set_cons_zero, List.set_cons_succ]
   refine wpAnyH_take (i := 2) (v := ?tv3) rfl (by kernel_rfl) (by kernel_rfl) (by kernel_rfl) (fun _ _ _ h => h) (Or.inl ⟨by rfl, ?ty3⟩) hS0 ?tr3
   case ty3 => (intro w' hw'; obtain ⟨y0, y1⟩ := HCELL.out w' hw'; go_simp; try with_reducible rfl)
   try simp only [List.getElem_toArray, List.getElem_cons_zero, List.getElem_cons_succ]
   try simp only [Act.put, List.setIfInBounds_toArray, List.set_cons_zero, List.set_cons_succ]
   refine wpAnyH_take (i := 3) (v := ?tv4) rfl (by kernel_rfl) (by kernel_rfl) (by kernel_rfl) (fun _ _ _ h => h) (Or.inl ⟨by rfl, ?ty4⟩) hS0 ?tr4
   case ty4 => (intro w' hw'; obtain ⟨y0, y1⟩ := HCELL.out w' hw'; go_simp; try with_reducible rfl)
   try simp only [List.getElem_toArray, List.getElem_cons_zero, List.getElem_cons_succ]
   try simp only [Act.put, List.setIfInBounds_toArray, List.set_cons_zero, List.set_cons_succ]
   refine wpAnyH_take (i := 4) (v := ?tv5) rfl (by kernel_rfl) (by kernel_rfl) (by kernel_rfl) (fun _ _ _ h => h) (Or.inl ⟨by rfl, ?ty5⟩) hS0 ?tr5
   case ty5 => (intro w' hw'; obtain ⟨y0, y1⟩ := HCELL.out w' hw'; go_simp; try with_reducible rfl)
   try simp only [List.getElem_toArray, List.getElem_cons_zero, List.getElem_cons_succ]
   try simp only [Act.put, List.setIfInBounds_toArray, List.set_cons_zero, List.set_cons_succ]
   refine wpAnyH_take (i := 5) (v := ?tv6) rfl (by kernel_rfl) (by kernel_rfl) (by kernel_rfl) (fun _ _ _ h => h) (Or.inl ⟨by rfl, ?ty6⟩) hS0 ?tr6
   case ty6 => (intro w' hw'; obtain ⟨y0, y1⟩ := HCELL.out w' hw'; go_simp; try with_reducible rfl)
   try simp only [List.getElem_toArray, List.getElem_cons_zero, List.getElem_cons_succ]
   try simp only [Act.put, List.setIfInBounds_toArray, List.set_cons_zero, List.set_cons_succ]
   refine wpAnyH_take (i := 6) (v := ?tv7) rfl (by kernel_rfl) (by kernel_rfl) (by kernel_rfl) (fun _ _ _ h => h) (Or.inl ⟨by rfl, ?ty7⟩) hS0 ?tr7
   case ty7 => (intro w' hw'; obtain ⟨y0, y1⟩ := HCELL.out w' hw'; go_simp; try with_reducible rfl)
   try simp only [List.getElem_toArray, List.getElem_cons_zero, List.getElem_cons_succ]
   try simp only [Act.put, List.setIfInBounds_toArray, List.set_cons_zero, List.set_cons_succ]
   refine wpAnyH_ready (rs := [7]) (by kernel_rfl) (by simp) ?_
   refine AllReadyH.cons rfl (fun K hK => ?_) AllReadyH.nil
   go_simp
   have hS1 : (wz.setCell ⟨B0 + 1, jf, none⟩ (.bool true)).heap[rb]? = wz.heap[rb]? := Below.heap_setCell _ _ _ _ (by have := HRN.out; show rb ≠ B0 + 1; omega)
   refine hK.out _ _ hS1 (fun _ => ?_)
   clear hK K
   try simp only [Act.put, List.setIfInBounds_toArray, List.set_cons_zero, List.set_cons_succ]
   refine wpAnyH_take (i := 8) (v := ?tv8) rfl (by kernel_rfl) (by kernel_rfl) (by kernel_rfl) (fun _ _ _ h => h) (Or.inl ⟨by rfl, ?ty8⟩) hS1 ?tr8
   case ty8 => (intro w' hw'; obtain ⟨y0, y1⟩ := HCELL.out w' hw'; go_simp; try with_reducible rfl)
   try simp only [List.getElem_toArray, List.getElem_cons_zero, List.getElem_cons_succ]
   try simp only [Act.put, List.setIfInBounds_toArray, List.set_cons_zero, List.set_cons_succ]
   refine wpAnyH_ready (rs := [9]) (by kernel_rfl) (by simp) ?_
   refine AllReadyH.cons rfl (fun K hK => ?_) AllReadyH.nil
   obtain ⟨wy, hwy⟩ : ∃ wy, wy = wz.setCell ⟨B0 + 1, jf, none⟩ (.bool true) := ⟨_, rfl⟩
   rw [← hwy]
   have hMy : Marks wy (B0 + 1) (n + 1) (fun i => atL (cutL f.rows k) i ∨ i = jf) := by rw [hwy]; exact HMz.out.set HJ.out.2.2.1 (fun i => Iff.rfl)
   have HWY := lhid hwy
   clear hwy
   obtain ⟨v3, hv3, _⟩ := hMy.cell HJ.out.2.2.2
   have f3 := hMy.fz jt
   have l3 := hMy.lt
   go_simp
   have hS2 : (wy.setCell ⟨B0 + 1, jt, none⟩ (.bool true)).heap[rb]? = wz.heap[rb]? := (Below.heap_setCell _ _ _ _ (by have := HRN.out; show rb ≠ B0 + 1; omega)).trans (by rw [HWY.out]; exact hS1)
   refine hK.out _ _ hS2 (fun _ => ?_)
   clear hK K
   try simp only [Act.put, List.setIfInBounds_toArray, List.set_cons_zero, List.set_cons_succ]
   refine wpAnyH_done (by kernel_rfl) ?_ _
   rw [HWY.out]
   clear HWY hMy hv3 f3 l3 hS0 hS1 hS2 hv1 hv2 f1 f2 l1
   have HMs : Hid (Marks ((wz.setCell ⟨B0 + 1, jf, none⟩ (.bool true)).setCell ⟨B0 + 1, jt, none⟩ (.bool true)) (B0 + 1) (n + 1) (atL (cutL f.rows (k + 1)))) := lhid (by
    have h9 : Marks (wz.setCell ⟨B0 + 1, jf, none⟩ (.bool true)) (B0 + 1) (n + 1) (fun i => atL (cutL f.rows k) i ∨ i = jf) := HMz.out.set HJ.out.2.2.1 (fun i => Iff.rfl)
    refine h9.set HJ.out.2.2.2 (fun i => ?_)
    rw [cutL_snoc HX.out]
    unfold atL
    obtain ⟨e1, e2, _⟩ := HJ.out
    rw [e1, e2]
    simp only [List.mem_append, List.mem_cons, List.not_mem_nil, or_false]
    constructor
    ·rintro (h | h | h)
     ·exact .inl (.inl h)
     ·exact .inl (.inr (by omega))
     ·exact .inr (by omega)
    ·rintro ((h | h) | h)
     ·exact .inl h
     ·exact .inr (.inl (by omega))
     ·exact .inr (.inr (by omega)))
   have HCs : Hid (Ch (fun b => b = B0 + 1) w2 ((wz.setCell ⟨B0 + 1, jf, none⟩ (.bool true)).setCell ⟨B0 + 1, jt, none⟩ (.bool true))) := lhid ((HCz.out.set (p := ⟨B0 + 1, jf, none⟩) (fun _ => rfl) _).set (p := ⟨B0 + 1, jt, none⟩) (fun _ => rfl) _)
   go_wp2
   go_roundg (f.rows.length - (k + 1))
   case measure => omega
   case rel => exact ⟨k + 1, rfl, by first | rfl | rw [hwk], by omega, HCs, HMs⟩
  ·have k3 : ¬ (k : Int) < f.rows.length := by omega
   have hke : k = f.rows.length := by omega
   subst hke
   obtain ⟨w4, hw4⟩ : ∃ x, x = wr := ⟨_, rfl⟩
   subst hw4
   have HB4 : Hid (Below w.heap.size w w4) := lhid (HBW.out.trans (HC.out.to (by have := HS2.out; have := HB0.out; omega) (fun b hb => by have := HB0.out; omega)))
   have HS4 : Hid (B0 + 2 ≤ w4.heap.size) := lhid (by have := HC.out.size; have := HS2.out; omega)
   obtain ⟨p0, p1, p2, p3, p4⟩ := HFr.out.cells
   obtain ⟨i0, hi0, hz0, hz1, hz2⟩ := info_parts info_ls
   clear hlt
   go_wp2_with fail
   clear p0 p1 p2 p3 p4
   have HI0 : Hid (ThI f 0 true []) := lhid (ThI.begin f)
   go_loopg [6, 7, 35] n (fun g v bb s wr => ∃ (k : Nat) (TH : List (List Int)) (A : Option Addr) (q : Nat) (bg : Bool), g = n - k ∧ v = .slice A TH.length q ∧ bb = .bool bg ∧ s = .int .i64 k ∧ k ≤ n ∧ Hid (OwLL wr (B0 + 2) (.slice A TH.length q) TH) ∧ Hid (ThI f k bg TH) ∧ Hid (Below (B0 + 2) w4 wr))
   case atStart => exact ⟨0, [], none, 0, true, rfl, rfl, rfl, rfl, Nat.zero_le _, lhid (OwLL.nil _ _), HI0, lhid (Below.refl _ _)⟩
   case round =>
    clear HI0
    obtain ⟨k, TH, A, q, bg, rfl, rfl, rfl, rfl, hk, HO, HI, HBr⟩ := hrel
    by_cases hlt : k < n
    ·have k3 : (k : Int) < n := by omega
     have k3' : (k : Int) < (n : Int) + 1 := by omega
     have hwk : wrap64 ((k : Int) + 1) = ((k + 1 : Nat) : Int) := by rw [IntWalk.wrap64_in _ (by omega)]; omega
     obtain ⟨x, hx⟩ : ∃ x, f.code[k]? = some x := ⟨_, List.getElem?_eq_getElem (by have := HN.out; omega)⟩
     have hBq : Below w.heap.size w wr := HB4.out.trans (HBr.out.mono (by have := HB0.out; omega))
     obtain ⟨gc, o, v, hD, _, hva, c0, c1, c2, c3, c4, c5, c6, c7, c8⟩ := in_cells (HFU.out.below hBq).d hx
     subst hD
     obtain ⟨VA, vc, hv0⟩ := hva.shape
     subst hv0
     have hM := HM.out.of (HBr.out.block (B0 + 1) (by omega))
     obtain ⟨bc1, hb1, hb2⟩ := hM.cell (show k < n + 1 by omega)
     rw [cutL_all] at hb2
     have hcut : cutB f.rows k = bc1 := by rw [Bool.eq_iff_iff]; exact hb2.symm
     have hgl : B0 + 1 < wr.heap.size := hM.lt
     have hgc : gc < wr.heap.size := cell_lt c0
     have HX := lhid hx
     have HCUT := lhid hcut
     have HBQ := lhid hBq
     obtain ⟨tz, htz⟩ : ∃ tz, throwsB x.op = tz := ⟨_, rfl⟩
     have HTZ := lhid htz
     have HSZ : Hid (B0 + 2 ≤ wr.heap.size) := lhid hgl
     clear hx hva hBq hM hb2 hcut htz
     cases bg with
     | true =>
      cases tz with
      | false =>
       go_wp2_with fail
       with_reducible refine (throws_r x (.slice VA x.args.length vc) false _ HTZ).mono ?_
       rintro e w5 ⟨rfl, hb5⟩
       have HB5 : Hid (Below wr.heap.size wr w5) := lhid (((Below.refl wr.heap.size wr).alloc (Nat.le_refl _) _).trans (hb5.mono (by simp)))
       have HO5 := lhid (HO.out.below HB5.out)
       have HBr5 : Hid (Below (B0 + 2) w4 w5) := lhid (HBr.out.trans (HB5.out.mono HSZ.out))
       clear hb5 c0 c1 c2 c3 c4 c5 c6 c7 c8 hb1 hgc
       go_wp2_with fail
       go_roundg (n - (k + 1))
       case measure => omega
       case rel => exact ⟨k + 1, TH, A, q, true, rfl, rfl, rfl, by first | rfl | rw [hwk], by omega, HO5, lhid (by have h9 := HI.out.skip HX.out HTZ.out; rw [HCUT.out] at h9; exact h9), HBr5⟩
      | true =>
       go_wp2_with fail
       with_reducible refine (throws_r x (.slice VA x.args.length vc) true _ HTZ).mono ?_
       rintro e w5 ⟨rfl, hb5⟩
       have HB5 : Hid (Below wr.heap.size wr w5) := lhid (((Below.refl wr.heap.size wr).alloc (Nat.le_refl _) _).trans (hb5.mono (by simp)))
       have HO5 := lhid (HO.out.below HB5.out)
       have HBr5 : Hid (Below (B0 + 2) w4 w5) := lhid (HBr.out.trans (HB5.out.mono HSZ.out))
       clear hb5 c0 c1 c2 c3 c4 c5 c6 c7 c8 hb1 hgc
       obtain ⟨vs, HVS⟩ : ∃ vs, Hid (w5.ownsRow (B0 + 2) 22 1 (.slice A TH.length q) TH.length vs ∧ (∀ (i : Nat) l, TH[i]? = some l → ∃ u, vs[i]? = some u ∧ OwN w5 (B0 + 2) u l) ∧ (∀ (i j : Nat) u u', vs[i]? = some u → vs[j]? = some u' → i ≠ j → ∀ b, u.ownBlock = some b → u'.ownBlock ≠ some b)) := by obtain ⟨vs, h9⟩ := HO5.out; exact ⟨vs, lhid h9⟩
       have HTHL : Hid (TH.length ≤ k) := lhid HI.out.len.1
       go_wp2_with (at_builtin; refine wpList_append_own _ rfl (.tmp 51) (.tmp 52) 43 rfl (B0 + 2) 22 i0 (.slice none 0 0) 1 24 Try.underlying43 hi0 hz0 hz1 hz2 rfl (by decide) (.slice A TH.length q) TH.length vs rfl (HVS.out.1.alloc _) ⟨w5.heap.size, 0, none⟩ 1 1 [.slice none 0 0] rfl rfl ?b1 ?b2 ?b3 ?b4 ?b5 ?_)
       case b1 => exact new_cells _ _ _
       case b2 => (intro u hu; simp at hu; subst hu; rfl)
       case b3 => (have := HTHL.out; unfold maxLen; omega)
       case b4 => (have := HTHL.out; omega)
       case b5 => (have h1 := HSZ.out; have h2 := HB5.out.size; simp; omega)
       intro v' w6 hown hgrow hnil
       obtain ⟨A6, q6, rfl⟩ := own_shape hown
       have hb56 : Below (B0 + 2) w5 w6 := Below.grown ((Below.refl _ _).alloc (by have h1 := HSZ.out; have h2 := HB5.out.size; omega) _) hgrow (by have h1 := HSZ.out; have h2 := HB5.out.size; simp; omega) (fun k e => own_lt HVS.out.1 k e)
       have hpush : OwLL w6 (B0 + 2) (.slice A6 (TH.length + 1) q6) (TH ++ [[]]) := OwLL.push (w := w5.alloc (.cells #[.slice none 0 0] 22)) ⟨HVS.out.1.alloc _, fun i l hi => by obtain ⟨u, h7, h8⟩ := HVS.out.2.1 i l hi; exact ⟨u, h7, h8.alloc _⟩, HVS.out.2.2⟩ hgrow hown
       have HO6 := lhid hpush
       have HBr6 : Hid (Below (B0 + 2) w4 w6) := lhid (HBr5.out.trans hb56)
       have HSZ6 : Hid (B0 + 2 ≤ w6.heap.size) := lhid (Nat.le_trans (by have h1 := HSZ.out; have h2 := HB5.out.size; omega) hb56.size)
       obtain ⟨N, hNe⟩ : ∃ N, TH.length + 1 = N := ⟨_, rfl⟩
       rw [hNe] at HO6
       rw [hNe]
       have HNE : Hid (N = TH.length + 1) := lhid hNe.symm
       clear hown hgrow hnil hb56 hpush hNe HVS
       have hw9 : wrap64 ((N : Int) - 1) = ((TH.length : Nat) : Int) := by rw [IntWalk.wrap64_in _ (by have := HNE.out; have := HTHL.out; omega)]; have := HNE.out; omega
       have hNl : ((TH.length : Nat) : Int) < N := by have := HNE.out; omega
       obtain ⟨gv, cv, UA, uc, hAe, hgvB, hgv, cu, hou⟩ := HO6.out.at' (i := TH.length) (l := []) (by simp)
       subst hAe
       have zu := heap_thaw hgv TH.length
       have lu := heap_lt hgv
       have HGV := lhid hgv
       have HOU := lhid hou
       have HCU := lhid cu
       clear hgv hou
       go_wp2_with (at_builtin; refine wpList_append_fresh rfl (.tmp 62) (.tmp 64) rfl (B0 + 2) (.slice UA ([] : List Int).length uc) ([] : List Int) rfl (HOU.out.alloc _) ⟨w6.heap.size, 0, none⟩ 1 (k : Int) rfl ?b6 ?b7 ?b8 ?_)
       case b6 => exact heap_cell (i := 0) (heap_alloc_new w6 (.cells #[.int .i64 (k : Int)] 3)) rfl
       case b7 => (have := HSZ6.out; simp; omega)
       case b8 => simp
       intro v' w8 ho8 hg8 hf8
       obtain ⟨A8, q8, rfl⟩ := own_shape ho8
       have hcu8 : Ch (fun b => (Value.slice UA ([] : List Int).length uc).ownBlock = some b) w6 w8 := ((Ch.refl (fun b => (Value.slice UA ([] : List Int).length uc).ownBlock = some b) w6).alloc _).grown hg8 (fun k e _ => e)
       have hgv8 := hcu8.keep HGV.out (fun e => own_ne HOU.out HGV.out (by decide) e)
       have zu8 := heap_thaw hgv8 TH.length
       have lu8 := heap_lt hgv8
       have cu8 := (cell_heap (hcu8.block gv (heap_lt HGV.out) (fun e => own_ne HOU.out HGV.out (by decide) e)) TH.length).trans HCU.out
       have HO8 := lhid ho8
       have HCU8 := lhid hcu8
       have HF8 : Hid (∀ b, (Value.slice A8 (([] : List Int) ++ [(k : Int)]).length q8).ownBlock = some b → (Value.slice UA ([] : List Int).length uc).ownBlock = some b ∨ w6.heap.size ≤ b) := lhid (fun b hb => by
        rcases hf8 with h9 | h9
        ·exact .inl (h9.symm.trans hb)
        ·have h10 := h9.symm.trans hb; injection h10 with h10; right; first | omega | (simp at h10; omega))
       have hln8 : (([] : List Int) ++ [(k : Int)]).length = ([] : List Int).length + 1 := by rw [List.length_append]; rfl
       have HBr8 : Hid (Below (B0 + 2) w6 w8) := lhid (hcu8.to HSZ6.out (fun b e => own_lt HOU.out b e))
       clear ho8 hg8 hf8 hcu8 hgv8 cu zu lu
       go_wp2_with fail
       have HO9 := lhid (HO6.out.set (show (TH ++ [([] : List Int)])[TH.length]? = some [] by simp) HCU.out HCU8.out HO8.out HF8.out)
       have HBr9 : Hid (Below (B0 + 2) w4 (w8.setCell ⟨gv, TH.length, none⟩ (.slice A8 (([] : List Int).length + 1) q8))) := lhid ((HBr6.out.trans HBr8.out).setCell (p := ⟨gv, TH.length, none⟩) hgvB _)
       rw [show (TH ++ [([] : List Int)]).set TH.length [(k : Int)] = TH ++ [[(k : Int)]] by rw [List.set_append_right _ _ (Nat.le_refl _), Nat.sub_self]; rfl] at HO9
       go_roundg (n - (k + 1))
       case measure => omega
       case rel => exact ⟨k + 1, TH ++ [[(k : Int)]], _, _, false, rfl, by first | rfl | rw [show (TH ++ [[(k : Int)]]).length = N by simp [HNE.out]], rfl, by first | rfl | rw [hwk], by omega, lhid (by have h9 := HO9.out; first | exact h9 | (rw [show (TH ++ [[(k : Int)]]).length = N by simp [HNE.out]]; exact h9)), lhid (HI.out.new HX.out HTZ.out), HBr9⟩
     | false =>
      cases bc1 with
      | true =>
       cases tz with
       | false =>
        go_wp2_with fail
        with_reducible refine (throws_r x (.slice VA x.args.length vc) false _ HTZ).mono ?_
        rintro e w5 ⟨rfl, hb5⟩
        have HB5 : Hid (Below wr.heap.size wr w5) := lhid (((Below.refl wr.heap.size wr).alloc (Nat.le_refl _) _).trans (hb5.mono (by simp)))
        have HO5 := lhid (HO.out.below HB5.out)
        have HBr5 : Hid (Below (B0 + 2) w4 w5) := lhid (HBr.out.trans (HB5.out.mono HSZ.out))
        clear hb5 c0 c1 c2 c3 c4 c5 c6 c7 c8 hb1 hgc
        go_wp2_with fail
        go_roundg (n - (k + 1))
        case measure => omega
        case rel => exact ⟨k + 1, TH, A, q, true, rfl, rfl, rfl, by first | rfl | rw [hwk], by omega, HO5, lhid (by have h9 := HI.out.skip HX.out HTZ.out; rw [HCUT.out] at h9; exact h9), HBr5⟩
       | true =>
        go_wp2_with fail
        with_reducible refine (throws_r x (.slice VA x.args.length vc) true _ HTZ).mono ?_
        rintro e w5 ⟨rfl, hb5⟩
        have HB5 : Hid (Below wr.heap.size wr w5) := lhid (((Below.refl wr.heap.size wr).alloc (Nat.le_refl _) _).trans (hb5.mono (by simp)))
        have HO5 := lhid (HO.out.below HB5.out)
        have HBr5 : Hid (Below (B0 + 2) w4 w5) := lhid (HBr.out.trans (HB5.out.mono HSZ.out))
        clear hb5 c0 c1 c2 c3 c4 c5 c6 c7 c8 hb1 hgc
        obtain ⟨vs, HVS⟩ : ∃ vs, Hid (w5.ownsRow (B0 + 2) 22 1 (.slice A TH.length q) TH.length vs ∧ (∀ (i : Nat) l, TH[i]? = some l → ∃ u, vs[i]? = some u ∧ OwN w5 (B0 + 2) u l) ∧ (∀ (i j : Nat) u u', vs[i]? = some u → vs[j]? = some u' → i ≠ j → ∀ b, u.ownBlock = some b → u'.ownBlock ≠ some b)) := by obtain ⟨vs, h9⟩ := HO5.out; exact ⟨vs, lhid h9⟩
        have HTHL : Hid (TH.length ≤ k) := lhid HI.out.len.1
        go_wp2_with (at_builtin; refine wpList_append_own _ rfl (.tmp 51) (.tmp 52) 43 rfl (B0 + 2) 22 i0 (.slice none 0 0) 1 24 Try.underlying43 hi0 hz0 hz1 hz2 rfl (by decide) (.slice A TH.length q) TH.length vs rfl (HVS.out.1.alloc _) ⟨w5.heap.size, 0, none⟩ 1 1 [.slice none 0 0] rfl rfl ?d1 ?d2 ?d3 ?d4 ?d5 ?_)
        case d1 => exact new_cells _ _ _
        case d2 => (intro u hu; simp at hu; subst hu; rfl)
        case d3 => (have := HTHL.out; unfold maxLen; omega)
        case d4 => (have := HTHL.out; omega)
        case d5 => (have h1 := HSZ.out; have h2 := HB5.out.size; simp; omega)
        intro v' w6 hown hgrow hnil
        obtain ⟨A6, q6, rfl⟩ := own_shape hown
        have hb56 : Below (B0 + 2) w5 w6 := Below.grown ((Below.refl _ _).alloc (by have h1 := HSZ.out; have h2 := HB5.out.size; omega) _) hgrow (by have h1 := HSZ.out; have h2 := HB5.out.size; simp; omega) (fun k e => own_lt HVS.out.1 k e)
        have hpush : OwLL w6 (B0 + 2) (.slice A6 (TH.length + 1) q6) (TH ++ [[]]) := OwLL.push (w := w5.alloc (.cells #[.slice none 0 0] 22)) ⟨HVS.out.1.alloc _, fun i l hi => by obtain ⟨u, h7, h8⟩ := HVS.out.2.1 i l hi; exact ⟨u, h7, h8.alloc _⟩, HVS.out.2.2⟩ hgrow hown
        have HO6 := lhid hpush
        have HBr6 : Hid (Below (B0 + 2) w4 w6) := lhid (HBr5.out.trans hb56)
        have HSZ6 : Hid (B0 + 2 ≤ w6.heap.size) := lhid (Nat.le_trans (by have h1 := HSZ.out; have h2 := HB5.out.size; omega) hb56.size)
        obtain ⟨N, hNe⟩ : ∃ N, TH.length + 1 = N := ⟨_, rfl⟩
        rw [hNe] at HO6
        rw [hNe]
        have HNE : Hid (N = TH.length + 1) := lhid hNe.symm
        clear hown hgrow hnil hb56 hpush hNe HVS
        have hw9 : wrap64 ((N : Int) - 1) = ((TH.length : Nat) : Int) := by rw [IntWalk.wrap64_in _ (by have := HNE.out; have := HTHL.out; omega)]; have := HNE.out; omega
        have hNl : ((TH.length : Nat) : Int) < N := by have := HNE.out; omega
        obtain ⟨gv, cv, UA, uc, hAe, hgvB, hgv, cu, hou⟩ := HO6.out.at' (i := TH.length) (l := []) (by simp)
        subst hAe
        have zu := heap_thaw hgv TH.length
        have lu := heap_lt hgv
        have HGV := lhid hgv
        have HOU := lhid hou
        have HCU := lhid cu
        clear hgv hou
        go_wp2_with (at_builtin; refine wpList_append_fresh rfl (.tmp 62) (.tmp 64) rfl (B0 + 2) (.slice UA ([] : List Int).length uc) ([] : List Int) rfl (HOU.out.alloc _) ⟨w6.heap.size, 0, none⟩ 1 (k : Int) rfl ?d6 ?d7 ?d8 ?_)
        case d6 => exact heap_cell (i := 0) (heap_alloc_new w6 (.cells #[.int .i64 (k : Int)] 3)) rfl
        case d7 => (have := HSZ6.out; simp; omega)
        case d8 => simp
        intro v' w8 ho8 hg8 hf8
        obtain ⟨A8, q8, rfl⟩ := own_shape ho8
        have hcu8 : Ch (fun b => (Value.slice UA ([] : List Int).length uc).ownBlock = some b) w6 w8 := ((Ch.refl (fun b => (Value.slice UA ([] : List Int).length uc).ownBlock = some b) w6).alloc _).grown hg8 (fun k e _ => e)
        have hgv8 := hcu8.keep HGV.out (fun e => own_ne HOU.out HGV.out (by decide) e)
        have zu8 := heap_thaw hgv8 TH.length
        have lu8 := heap_lt hgv8
        have cu8 := (cell_heap (hcu8.block gv (heap_lt HGV.out) (fun e => own_ne HOU.out HGV.out (by decide) e)) TH.length).trans HCU.out
        have HO8 := lhid ho8
        have HCU8 := lhid hcu8
        have HF8 : Hid (∀ b, (Value.slice A8 (([] : List Int) ++ [(k : Int)]).length q8).ownBlock = some b → (Value.slice UA ([] : List Int).length uc).ownBlock = some b ∨ w6.heap.size ≤ b) := lhid (fun b hb => by
         rcases hf8 with h9 | h9
         ·exact .inl (h9.symm.trans hb)
         ·have h10 := h9.symm.trans hb; injection h10 with h10; right; first | omega | (simp at h10; omega))
        have hln8 : (([] : List Int) ++ [(k : Int)]).length = ([] : List Int).length + 1 := by rw [List.length_append]; rfl
        have HBr8 : Hid (Below (B0 + 2) w6 w8) := lhid (hcu8.to HSZ6.out (fun b e => own_lt HOU.out b e))
        clear ho8 hg8 hf8 hcu8 hgv8 cu zu lu
        go_wp2_with fail
        have HO9 := lhid (HO6.out.set (show (TH ++ [([] : List Int)])[TH.length]? = some [] by simp) HCU.out HCU8.out HO8.out HF8.out)
        have HBr9 : Hid (Below (B0 + 2) w4 (w8.setCell ⟨gv, TH.length, none⟩ (.slice A8 (([] : List Int).length + 1) q8))) := lhid ((HBr6.out.trans HBr8.out).setCell (p := ⟨gv, TH.length, none⟩) hgvB _)
        rw [show (TH ++ [([] : List Int)]).set TH.length [(k : Int)] = TH ++ [[(k : Int)]] by rw [List.set_append_right _ _ (Nat.le_refl _), Nat.sub_self]; rfl] at HO9
        go_roundg (n - (k + 1))
        case measure => omega
        case rel => exact ⟨k + 1, TH ++ [[(k : Int)]], _, _, false, rfl, by first | rfl | rw [show (TH ++ [[(k : Int)]]).length = N by simp [HNE.out]], rfl, by first | rfl | rw [hwk], by omega, lhid (by have h9 := HO9.out; first | exact h9 | (rw [show (TH ++ [[(k : Int)]]).length = N by simp [HNE.out]]; exact h9)), lhid (HI.out.new HX.out HTZ.out), HBr9⟩
      | false =>
       cases tz with
       | false =>
        go_wp2_with fail
        with_reducible refine (throws_r x (.slice VA x.args.length vc) false _ HTZ).mono ?_
        rintro e w5 ⟨rfl, hb5⟩
        have HB5 : Hid (Below wr.heap.size wr w5) := lhid (((Below.refl wr.heap.size wr).alloc (Nat.le_refl _) _).trans (hb5.mono (by simp)))
        have HO5 := lhid (HO.out.below HB5.out)
        have HBr5 : Hid (Below (B0 + 2) w4 w5) := lhid (HBr.out.trans (HB5.out.mono HSZ.out))
        clear hb5 c0 c1 c2 c3 c4 c5 c6 c7 c8 hb1 hgc
        go_wp2_with fail
        go_roundg (n - (k + 1))
        case measure => omega
        case rel => exact ⟨k + 1, TH, A, q, false, rfl, rfl, rfl, by first | rfl | rw [hwk], by omega, HO5, lhid (by have h9 := HI.out.skip HX.out HTZ.out; rw [HCUT.out] at h9; exact h9), HBr5⟩
       | true =>
        go_wp2_with fail
        with_reducible refine (throws_r x (.slice VA x.args.length vc) true _ HTZ).mono ?_
        rintro e w5 ⟨rfl, hb5⟩
        have HB5 : Hid (Below wr.heap.size wr w5) := lhid (((Below.refl wr.heap.size wr).alloc (Nat.le_refl _) _).trans (hb5.mono (by simp)))
        have HO5 := lhid (HO.out.below HB5.out)
        have HBr5 : Hid (Below (B0 + 2) w4 w5) := lhid (HBr.out.trans (HB5.out.mono HSZ.out))
        clear hb5 c0 c1 c2 c3 c4 c5 c6 c7 c8 hb1 hgc
        obtain ⟨L0, l, hTH, _⟩ := HI.out.last rfl
        have HTHE := lhid hTH
        have hNl0 : TH.length = L0.length + 1 := by rw [hTH]; simp
        have HTHL : Hid (TH.length ≤ k) := lhid HI.out.len.1
        have hNl : ((L0.length : Nat) : Int) < TH.length := by omega
        have hw9 : wrap64 ((TH.length : Int) - 1) = ((L0.length : Nat) : Int) := by rw [IntWalk.wrap64_in _ (by have := HTHL.out; omega)]; omega
        have hat : TH[L0.length]? = some l := by rw [hTH]; simp
        have HAT := lhid hat
        have HLLE : Hid (l.length ≤ k) := lhid (HI.out.len.2 l (by rw [hTH]; simp))
        obtain ⟨gv, cv, UA, uc, hAe, hgvB, hgv, cu, hou⟩ := HO5.out.at' hat
        have HO6 := HO5
        have HSZ5 : Hid (B0 + 2 ≤ w5.heap.size) := lhid (Nat.le_trans HSZ.out HB5.out.size)
        clear hTH hat hNl0
        subst hAe
        have zu := heap_thaw hgv L0.length
        have lu := heap_lt hgv
        have HGV := lhid hgv
        have HOU := lhid hou
        have HCU := lhid cu
        clear hgv hou
        go_wp2_with (at_builtin; refine wpList_append_fresh rfl (.tmp 62) (.tmp 64) rfl (B0 + 2) (.slice UA l.length uc) l rfl (HOU.out.alloc _) ⟨w5.heap.size, 0, none⟩ 1 (k : Int) rfl ?f6 ?f7 ?f8 ?_)
        case f6 => exact heap_cell (i := 0) (heap_alloc_new w5 (.cells #[.int .i64 (k : Int)] 3)) rfl
        case f7 => (have := HSZ5.out; simp; omega)
        case f8 => (have := HLLE.out; omega)
        intro v' w8 ho8 hg8 hf8
        obtain ⟨A8, q8, rfl⟩ := own_shape ho8
        have hcu8 : Ch (fun b => (Value.slice UA l.length uc).ownBlock = some b) w5 w8 := ((Ch.refl (fun b => (Value.slice UA l.length uc).ownBlock = some b) w5).alloc _).grown hg8 (fun k e _ => e)
        have hgv8 := hcu8.keep HGV.out (fun e => own_ne HOU.out HGV.out (by decide) e)
        have zu8 := heap_thaw hgv8 L0.length
        have lu8 := heap_lt hgv8
        have cu8 := (cell_heap (hcu8.block gv (heap_lt HGV.out) (fun e => own_ne HOU.out HGV.out (by decide) e)) L0.length).trans HCU.out
        have HO8 := lhid ho8
        have HCU8 := lhid hcu8
        have HF8 : Hid (∀ b, (Value.slice A8 (l ++ [(k : Int)]).length q8).ownBlock = some b → (Value.slice UA l.length uc).ownBlock = some b ∨ w5.heap.size ≤ b) := lhid (fun b hb => by
         rcases hf8 with h9 | h9
         ·exact .inl (h9.symm.trans hb)
         ·have h10 := h9.symm.trans hb; injection h10 with h10; right; first | omega | (simp at h10; omega))
        have hln8 : (l ++ [(k : Int)]).length = l.length + 1 := by rw [List.length_append]; rfl
        have HBr8 : Hid (Below (B0 + 2) w5 w8) := lhid (hcu8.to HSZ5.out (fun b e => own_lt HOU.out b e))
        clear ho8 hg8 hf8 hcu8 hgv8 cu zu lu
        go_wp2_with fail
        have HO9 := lhid (HO6.out.set HAT.out HCU.out HCU8.out HO8.out HF8.out)
        have HBr9 : Hid (Below (B0 + 2) w4 (w8.setCell ⟨gv, L0.length, none⟩ (.slice A8 (l.length + 1) q8))) := lhid ((HBr5.out.trans HBr8.out).setCell (p := ⟨gv, L0.length, none⟩) hgvB _)
        rw [show TH.set L0.length (l ++ [(k : Int)]) = L0 ++ [l ++ [(k : Int)]] by rw [HTHE.out]; simp, hln8] at HO9
        go_roundg (n - (k + 1))
        case measure => omega
        case rel => exact ⟨k + 1, L0 ++ [l ++ [(k : Int)]], _, _, false, rfl, by first | rfl | rw [show (L0 ++ [l ++ [(k : Int)]]).length = TH.length by rw [HTHE.out]; simp], rfl, by first | rfl | rw [hwk], by omega, lhid (by have h9 := HO9.out; first | exact h9 | (rw [show (L0 ++ [l ++ [(k : Int)]]).length = TH.length by rw [HTHE.out]; simp]; exact h9)), lhid (by have h9 := HI.out; rw [HTHE.out] at h9; exact h9.more HX.out HTZ.out HCUT.out), HBr9⟩
    ·have k3 : ¬ (k : Int) < n := by omega
     have hke : k = n := by omega
     subst hke
     go_wp2_with fail
     go_ret
     exact ⟨_, TH, bg, rfl, HO.out.base (by have := HB0.out; omega), HI.out, HB4.out.trans (HBr.out.mono (by have := HB0.out; omega))⟩
end Go.Proofs.Ytoommeiiadobfaa
