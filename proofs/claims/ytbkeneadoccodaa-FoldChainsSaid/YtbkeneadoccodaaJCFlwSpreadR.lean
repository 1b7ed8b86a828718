/- Marks that spread: the program's spread, where nothing is stopped. -/
import Derived.Test.YtbkeneadoccodaaJCFlwSpL
import Derived.Test.YtbkeneadoccodaaM6
import Derived.Shelf.RegionOpen
import Derived.Deep.RegionHeld3
import Derived.Deep.CutRange
import Derived.Test.YtbkeneadoccodaaCRegionInvIn
import Derived.Laws.EntriesVeiled
namespace Go.Proofs.Ytbkeneadoccodaa
open Go.RowKit Go
attribute [local go_sem] Oper.semAt_some
set_option linter.unusedVariables false
set_option linter.unusedSimpArgs false
theorem nothing_c (i : Int) (w : World) : Calls Try.prog 77 #[.int .i64 i] w fun e w' => e = .returned (.int .u64 0) ∧ w' = w := by
 go_enter Try.func77, Try.ntmps77
 go_wp2_with fail
 go_ret
 exact ⟨rfl, rfl⟩
theorem own_last {w : World} {B : Nat} {v : Value} {l : List Int} {x : Int} (h : OwN w B v (l ++ [x])) : ∃ g cap, v = .slice (some ⟨g, 0, none⟩) (l.length + 1) cap ∧ B ≤ g ∧ g < w.heap.size := by
 have hl : (l ++ [x]).length = l.length + 1 := by simp
 unfold OwN at h
 rw [hl] at h
 rcases h.2 with ⟨_, h1⟩ | ⟨g, cap, cur, h1, hb, hg, _⟩
 ·omega
 ·exact ⟨g, cap, h1, hb, heap_lt hg⟩
theorem SpM.ch {F MB TB G B n : Nat} {fa fb fd fe nv sv : Value} {ret : Int} {Pr X : Nat → Prop} {m : Nat → Mk} {T : List Nat} {w w' : World} (h : SpM F MB TB G B n fa fb ret fd fe nv sv Pr m T w) (hc : Ch X w w') (hX : ∀ k, X k → k ≠ F ∧ k ≠ MB ∧ k ≠ TB ∧ k ≠ G) (hr : ∀ k, X k → k < B ∨ ∃ o : Obj, w.heap[k]? = some o ∧ o.isCells = false) : SpM F MB TB G B n fa fb ret fd fe nv sv Pr m T w' where
 web := hc.keep h.web (fun e => (hX _ e).1 rfl)
 mb := hc.keep h.mb (fun e => (hX _ e).2.1 rfl)
 marks := h.marks.of (hc.block G h.marks.lt (fun e => (hX _ e).2.2.2 rfl))
 todo := by
  obtain ⟨v, h1, h2, h3⟩ := h.todo
  refine ⟨v, hc.keep h1 (fun e => (hX _ e).2.2.1 rfl), own_ch h2 hc (fun g hg e => ?_), h3⟩
  rcases hr g e with h4 | ⟨o, h4, h5⟩
  ·have := own_lt h2 g hg; omega
  ·rcases h2.2 with ⟨e2, _⟩ | ⟨g', cap, cur, e2, _, h6, _⟩
   ·subst e2; cases hg
   ·subst e2
    injection hg with hg
    subst hg
    rw [h6] at h4
    injection h4 with h4
    subst h4
    cases h5
 prot k hk := ⟨Nat.lt_of_lt_of_le (h.prot k hk).1 hc.size, (h.prot k hk).2⟩
 big := Nat.le_trans h.big hc.size
theorem SpM.more {F MB TB G B n : Nat} {fa fb fd fe nv sv : Value} {ret : Int} {Pr Pr' : Nat → Prop} {m : Nat → Mk} {T : List Nat} {w w' : World} (h : SpM F MB TB G B n fa fb ret fd fe nv sv Pr m T w) (hb : Below w.heap.size w w') (hD : SpD F MB TB G B) (hp : ∀ k, Pr' k → Pr k ∨ w.heap.size ≤ k ∧ k < w'.heap.size) : SpM F MB TB G B n fa fb ret fd fe nv sv Pr' m T w' := by
 have h9 := h.below hb
 obtain ⟨v, h1, h2, h3⟩ := h.todo
 obtain ⟨d1, d2, d3, d4, _⟩ := hD
 refine ⟨h9.web, h9.mb, h9.marks, ⟨v, heap_keep h1 hb, own_below h2 hb, fun k hk e => ?_⟩, fun k hk => ?_, h9.big⟩
 ·rcases hp k hk with h4 | h4
  ·exact h3 k h4 e
  ·have := (h2.lt k e).2; omega
 ·have := h.big
  rcases hp k hk with h4 | h4
  ·exact h9.prot k h4
  ·exact ⟨h4.2, by omega, by omega⟩
theorem SpK.grown {G TB B b : Nat} {Pr : Nat → Prop} {w0 W W' : World} {row : Option Nat} (h : SpK G TB B Pr w0 W) (hg : W.grownBy W' row) (hr : ∀ r, row = some r → w0.heap.size ≤ r ∧ ∃ o : Obj, W.heap[r]? = some o ∧ o.isCells = false) (hB : B ≤ w0.heap.size) (hp : ∀ k, Pr k → k < w0.heap.size) : SpK G TB B Pr w0 W' := by
 have hk : ∀ k, k < w0.heap.size → W'.heap[k]? = W.heap[k]? := fun k hk => hg.block k (Nat.lt_of_lt_of_le hk h.size) (fun e => by have := (hr k e.symm).1; omega)
 exact ⟨hg.os.trans h.os, hg.tape.trans h.tape, hg.output.trans h.output, Nat.le_trans h.size hg.size, fun k h1 h2 h3 => (hk k (by omega)).trans (h.low k h1 h2 h3), fun k h1 => (hk k (hp k h1)).trans (h.prot k h1), fun k o h1 h2 => (hk k (heap_lt h1)).trans (h.obj k o h1 h2), fun k cs fz h1 => (hk k (heap_lt h1)).trans (h.rows k cs fz h1)⟩
theorem SpM.grown {F MB TB G B n b : Nat} {fa fb fd fe nv sv : Value} {ret : Int} {Pr : Nat → Prop} {m : Nat → Mk} {T : List Nat} {W W' : World} {row : Option Nat} (h : SpM F MB TB G B n fa fb ret fd fe nv sv Pr m T W) (hD : SpD F MB TB G B) (hb : B ≤ b) (hg : W.grownBy W' row) (hr : ∀ r, row = some r → b ≤ r ∧ ∃ o : Obj, W.heap[r]? = some o ∧ o.isCells = false) : SpM F MB TB G B n fa fb ret fd fe nv sv Pr m T W' := by
 obtain ⟨d1, d2, d3, d4, _⟩ := hD
 exact h.ch (X := fun k => row = some k) ⟨hg.os, hg.tape, hg.output, hg.size, fun k hk hx => hg.block k hk (fun e => hx e.symm)⟩ (fun k e => by have := (hr k e).1; exact ⟨by omega, by omega, by omega, by omega⟩) (fun k e => .inr (hr k e).2)
def Sp2I (W : WbN) (beg : Mk) (sp : Nat → Mk) (i : Nat) (pre : List Int) (m t : Nat → Mk) (T : List Nat) : Prop := (∀ z ∈ pre, z ∈ W.ct i) → Sp2 W beg sp i pre m t T
theorem Sp2I.step {W : WbN} {beg : Mk} {sp m t m' : Nat → Mk} {T T' : List Nat} {i : Nat} {pre : List Int} {p : Int} (h : Sp2I W beg sp i pre m t T) (hb : Brg W.n p (m i) m T m' T') : Sp2I W beg sp i (pre ++ [p]) m' t T' := fun hz =>
 (h fun z hz' => hz z (List.mem_append_left _ hz')).step (hz p (by simp)) hb
theorem SpM.free {F MB TB G B n : Nat} {fa fb fd fe nv sv : Value} {ret : Int} {Pr : Nat → Prop} {m : Nat → Mk} {T : List Nat} {w : World} (h : SpM F MB TB G B n fa fb ret fd fe nv sv Pr m T w) : SpM F MB TB G B n fa fb ret fd fe nv sv (fun _ => False) m T w :=
 ⟨h.web, h.mb, h.marks, by obtain ⟨v, h1, h2, _⟩ := h.todo; exact ⟨v, h1, h2, fun _ h => h.elim⟩, fun _ h => h.elim, h.big⟩
theorem nextL_two (f : FuI) (i : Int) : (nextL f i).length ≤ 2 := by
 unfold nextL
 split
 ·simp
 ·unfold nextX goOn
  split
  ·split <;> simp
  ·split <;> simp
theorem SpM.pop {F MB TB G B n g N M cap IB i : Nat} {fa fb fd fe nv sv : Value} {ret : Int} {Pr : Nat → Prop} {m : Nat → Mk} {T' : List Nat} {w : World} {o : Obj} (h : SpM F MB TB G B n fa fb ret fd fe nv sv Pr m (T' ++ [i]) w) (hD : SpD F MB TB G B)
  (hv : w.heap[TB]? = some (.cells #[.slice (some ⟨g, 0, none⟩) M cap] 23 (0, 0))) (ho : OwN w B (.slice (some ⟨g, 0, none⟩) N cap) (T'.map fun i : Nat => (i : Int))) (hIB : IB = w.heap.size) (hp : ∀ k, Pr k → False) (hg : g < w.heap.size) :
  SpM F MB TB G B n fa fb ret fd fe nv sv (fun k => k = IB) m T' ((w.setCell ⟨TB, 0, none⟩ (.slice (some ⟨g, 0, none⟩) N cap)).alloc o) := by
 obtain ⟨d1, d2, d3, d4, d5, d6, d7, d8, d9, d10⟩ := hD
 have hc := (Ch.refl (fun k => k = TB) w).set (p := ⟨TB, 0, none⟩) (fun _ => rfl) (.slice (some ⟨g, 0, none⟩) N cap)
 have hb : Below (w.setCell ⟨TB, 0, none⟩ (.slice (some ⟨g, 0, none⟩) N cap)).heap.size (w.setCell ⟨TB, 0, none⟩ (.slice (some ⟨g, 0, none⟩) N cap)) ((w.setCell ⟨TB, 0, none⟩ (.slice (some ⟨g, 0, none⟩) N cap)).alloc o) := (Below.refl _ _).alloc (Nat.le_refl _) _
 have hgB : B ≤ g := own_lt ho g rfl
 have hB := h.big
 refine ⟨heap_keep (hc.keep h.web d6) hb, heap_keep (hc.keep h.mb d8) hb, (h.marks.of (hc.block G h.marks.lt (fun e => d10 e.symm))).below hb, ⟨_, ?_, (own_below (own_ch ho hc (fun b hb e => by have := own_lt ho b hb; omega)) hb), ?_⟩, ?_, ?_⟩
 ·have h1 := heap_set (i := 0) hv (.slice (some ⟨g, 0, none⟩) N cap)
  exact heap_keep (by simpa using h1) hb
 ·intro k hk e
  have e2 : g = k := by simpa [Value.ownBlock] using e
  omega
 ·intro k hk
  simp
  omega
 ·simp
  omega
theorem heap_alloc_new' (w : World) (o : Obj) (k : Nat) (h : k = w.heap.size) : (w.alloc o).heap[k]? = some o := by subst h; exact heap_alloc_new w o
theorem msk_made' (w : World) (n k : Nat) (h : k = w.heap.size) : Msk (w.alloc (.cells (madeCells #[.int .u64 0] n) 108)) k n (fun _ => 0) := by subst h; exact Msk.made w n
set_option maxHeartbeats 32000000 in
set_option maxRecDepth 100000 in
theorem spread_R {P : Nat → Prop} (f : FuI) (fa fb fd fe : Value) (gn gs : Nat) (beg : Mk) (w : World) (h : Hid (FuV P w f fa fb fd fe)) (hcl : Hid ((f.code.length + 1) * 1024 ≤ 140737488355328)) (hrn : Hid (RwN f.rows)) (hrl : Hid (f.rows.length * 8 ≤ 140737488355328)) (hLn : Hid (LstB w gn f.code.length 0 (fun i => nextL f i) f.code.length)) (hSn : Hid (NumB w gs f.code.length (strN f.rows) f.code.length)) :
    Calls Try.prog 66 #[.agg #[fa, fb, .int .i64 f.ret, fd, fe, .slice (some ⟨gn, 0, none⟩) f.code.length f.code.length, .slice (some ⟨gs, 0, none⟩) f.code.length f.code.length], .int .u64 (beg.toNat : Int), (.func (.func 77) #[] #[])] w fun e w' => ∃ (g : Nat) (m : Nat → Mk), e = .returned (.slice (some ⟨g, 0, none⟩) f.code.length f.code.length) ∧ w.heap.size ≤ g ∧ Msk w' g f.code.length m ∧ (∀ b i, i < f.code.length → ((m i).getLsbD b = true ↔ Comes (webN f) beg (fun _ => 0) b i)) ∧ Below w.heap.size w w' := by
  obtain ⟨FA, ac, hFA⟩ := h.out.a.shape
  subst hFA
  obtain ⟨FB, bc, hFB⟩ := h.out.b.shape
  subst hFB
  obtain ⟨D, dcap, hD⟩ := h.out.d.shape
  subst hD
  obtain ⟨E, ecap, hE⟩ := h.out.e.shape
  subst hE
  obtain ⟨n, hn⟩ : ∃ n, f.code.length = n := ⟨_, rfl⟩
  have HN := lhid hn
  have HWn : Hid ((webN f).n = n) := lhid hn
  have hcl2 := hcl.out
  have hl2 := hLn.out
  have hs2 := hSn.out
  have hf2 := h.out
  rw [hn] at hcl2 hl2 hs2 hf2 ⊢
  have HL := lhid hl2
  have HS := lhid hs2
  have HFU := lhid hf2
  have hgnw : gn < w.heap.size := hl2.lt
  have hgsw : gs < w.heap.size := hs2.lt
  clear hn hl2 hs2 hf2 h hLn hSn
  have hmk1 := make_marks n (by omega)
  have hmk2 : ∀ w : World, (Instr.makeSlice 90 (.int .i64 ((n : Int) + 1)) (.int .i64 ((n : Int) + 1))).run Try.prog w = .ok (.slice (some ⟨w.heap.size, 0, none⟩) (n + 1) (n + 1)) (w.alloc (.cells (madeCells #[.int .u64 0] (n + 1)) 108)) := fun w => make_marks (n + 1) (by omega) w
  have hc1 : wrap64 ((n : Int) + 1) = (n : Int) + 1 := IntWalk.wrap64_in _ (by omega)
  refine (callsIn_wide (n := 8)).1 ?_
  refine callsIn_of_wp_marks Try.func66 rfl trivial ?_ rfl
  simp only [Try.ntmps66, List.size_toArray, List.length_cons, List.length_nil, Nat.reduceAdd, Nat.reduceSub, Array.replicate_succ, Array.replicate_zero, List.push_toArray, List.append_toArray, List.nil_append, List.cons_append]
  refine wpIn_wide.2 ?_
  go_upto_region 5 with fail
  generalize hw1 : World.alloc _ _ = w1
  generalize hBB : w.heap.size + 1 + 1 + 1 + 1 + 1 = BB
  generalize hTB : w.heap.size + 1 + 1 + 1 + 1 = TB
  generalize hH : w.heap.size + 1 + 1 + 1 = H
  generalize hMB : w.heap.size + 1 + 1 = MB
  generalize hG : w.heap.size + 1 = G
  generalize hF : w.heap.size = F
  have HNUM : Hid (F = w.heap.size ∧ G = F + 1 ∧ MB = F + 2 ∧ H = F + 3 ∧ TB = F + 4 ∧ BB = F + 5) := lhid (by omega)
  have hs1 : w1.heap.size = BB + 1 := by rw [← hw1]; simp; omega
  have hb1 : Below w.heap.size w w1 := by rw [← hw1]; exact ((((((Below.refl w.heap.size w).alloc (Nat.le_refl _) _).alloc (by simp) _).alloc (by simp; omega) _).alloc (by simp; omega) _).alloc (by simp; omega) _).alloc (by simp; omega) _
  have HFB : Hid (w1.heap[BB]? = some (.cells #[.func (.func 99) #[] #[.pointer (some ⟨F, 0, none⟩), .pointer (some ⟨MB, 0, none⟩), .pointer (some ⟨TB, 0, none⟩)]] 131 (0, 0))) := lhid (by rw [← hw1, ← hBB, ← hTB, ← hMB, ← hF]; exact heap_alloc_new' _ _ _ (by simp))
  have hTBc : w1.heap[TB]? = some (.cells #[.slice none 0 0] 23 (0, 0)) := by rw [← hw1, ← hTB]; exact (Below.heap_alloc _ _ _ (by simp)).trans (heap_alloc_new' _ _ _ (by simp))
  have HH1 : Hid (Msk w1 H (n + 1) (fun _ => 0)) := lhid (by rw [← hw1, ← hH]; exact ((msk_made' _ (n + 1) _ (by simp)).below ((Below.refl _ _).alloc (Nat.le_refl _) _)).below ((Below.refl _ _).alloc (Nat.le_refl _) _))
  have hMBc : w1.heap[MB]? = some (.cells #[.slice (some ⟨G, 0, none⟩) n n] 90 (0, 0)) := by rw [← hw1, ← hMB, ← hG]; exact (Below.heap_alloc _ _ _ (by simp)).trans ((Below.heap_alloc _ _ _ (by simp)).trans ((Below.heap_alloc _ _ _ (by simp)).trans (heap_alloc_new' _ _ _ (by simp))))
  have hG1 : Msk w1 G n (fun _ => 0) := by rw [← hw1, ← hG]; exact ((((msk_made' _ n _ (by simp)).below ((Below.refl _ _).alloc (Nat.le_refl _) _)).below ((Below.refl _ _).alloc (Nat.le_refl _) _)).below ((Below.refl _ _).alloc (Nat.le_refl _) _)).below ((Below.refl _ _).alloc (Nat.le_refl _) _)
  have hF1 : WBox w1 F (.slice FA f.regs.length ac) (.slice FB f.params.length bc) f.ret (.slice D n dcap) (.slice E f.rows.length ecap) (.slice (some ⟨gn, 0, none⟩) n n) (.slice (some ⟨gs, 0, none⟩) n n) := by rw [← hw1, ← hF]; exact (Below.heap_alloc _ _ _ (by simp; omega)).trans ((Below.heap_alloc _ _ _ (by simp; omega)).trans ((Below.heap_alloc _ _ _ (by simp; omega)).trans ((Below.heap_alloc _ _ _ (by simp; omega)).trans ((Below.heap_alloc _ _ _ (by simp)).trans (heap_alloc_new' _ _ _ (by simp))))))
  have HM1 : Hid (SpM F MB TB G (BB + 1) n (.slice FA f.regs.length ac) (.slice FB f.params.length bc) f.ret (.slice D n dcap) (.slice E f.rows.length ecap) (.slice (some ⟨gn, 0, none⟩) n n) (.slice (some ⟨gs, 0, none⟩) n n) (fun _ => False) (fun _ => 0) [] w1) := lhid ⟨hF1, hMBc, hG1, ⟨_, hTBc, World.ownsRow_nil _ _ _ _, fun _ h => h.elim⟩, fun _ h => h.elim, by omega⟩
  have HD : Hid (SpD F MB TB G (BB + 1)) := lhid (by unfold SpD; omega)
  have HB1 : Hid (Below F w w1) := lhid (by rw [← hF]; exact hb1)
  have q0 := heap_cell (i := 0) HFB.out rfl
  have HS1 := lhid hs1
  clear hBB hTB hH hMB hG hF hs1 hb1 hTBc hMBc hG1 hF1 hw1 hmk1 hmk2 hc1
  go_wp2_with fail
  with_reducible refine (bring_c F MB TB G (BB + 1) n _ _ f.ret D dcap _ _ _ (fun _ => False) (fun _ => 0) [] 0 beg w1 HD HM1 (lhid (by simp))).mono ?_
  rintro e w2 ⟨rfl, m1, T1, hbr, hm, hk⟩
  have hz0 : 2 * zerS n m1 + T1.length ≤ 128 * n := by have h1 := hbr.less; have h2 := zerS_64 n (fun _ => 0); simp only [List.length_nil, Nat.add_zero] at h1; omega
  have HI1 : Hid (SpI (webN f) beg (fun _ => 0) m1 (fun _ => 0) T1) := lhid (SpI.start (m := fun _ => 0) (fun _ => rfl) (fun _ => rfl) (by rw [HWn.out]; exact hbr))
  have HM2 := lhid hm
  have HL2 : Hid (SpL G TB H (BB + 1) w1 w2) := lhid hk.l
  have HH2 : Hid (Msk w2 H (n + 1) (fun _ => 0)) := lhid (HH1.out.of (hk.low H (by have := HNUM.out; omega) (by have := HNUM.out; omega) (by have := HNUM.out; omega)))
  have HR2 : Hid (MrkD w2 (BB + 1) []) := lhid ⟨List.nodup_nil, fun _ h => by cases h⟩
  have HZ0 := lhid hz0
  clear hbr hm hk hz0 HM1 HH1 q0 hgnw hgsw
  go_wp2_with fail
  refine wp_loop_ghost_k (fun g a wr => ∃ u11 u12 u13 u14 u15 u16 u17 u18 u19 u20 u21 u22 u23 u24 u25 u26 u27 u28 u29 u30 u31 u32 u33 u34 u35 u36 u37 u38 u39 u40 u41 u42 u43 u44 u45 u46 u47 u48 u49 u50 u51 u52 u53 u54 u55 u56 u57 u58 u59 u60 u61 u62 u63 u64 u65 u66 u67 u68 u69 u70 u71 u72 u73 u74 u75 u76 u77 u78 u79 u80 u81 u82 u83 u84 u85 u86 u87 u88 u89 u90 u91 u92 u93 u94 u95 u96 u97 u98 u99 u100 u101 u102 u103 u104 u105 u106 u107 u108 u109 u110 u111 u112 u113 u114 : Value, ∃ (m t : Nat → Mk) (T Ds : List Nat), (g = 2 * zerS n m + T.length ∧ Hid (g ≤ 128 * n) ∧ Hid (SpI (webN f) beg (fun _ => 0) m t T) ∧ Hid (SpM F MB TB G (BB + 1) n (.slice FA f.regs.length ac) (.slice FB f.params.length bc) f.ret (.slice D n dcap) (.slice E f.rows.length ecap) (.slice (some ⟨gn, 0, none⟩) n n) (.slice (some ⟨gs, 0, none⟩) n n) (fun _ => False) m T wr) ∧ Hid (Msk wr H (n + 1) t) ∧ Hid (SpL G TB H (BB + 1) w1 wr) ∧ Hid (MrkD wr (BB + 1) Ds)) ∧ a = { tmps := #[.agg #[.slice FA f.regs.length ac, .slice FB f.params.length bc, .int .i64 f.ret, .slice D n dcap, .slice E f.rows.length ecap, .slice (some ⟨gn, 0, none⟩) n n, .slice (some ⟨gs, 0, none⟩) n n], .int .u64 (beg.toNat : Int), .func (.func 77) #[] #[], .pointer (some ⟨F, 0, none⟩), undef, undef, .slice none 0 0, .pointer (some ⟨MB, 0, none⟩), .slice (some ⟨H, 0, none⟩) (n + 1) (n + 1), .pointer (some ⟨TB, 0, none⟩), .pointer (some ⟨BB, 0, none⟩), u11, u12, u13, u14, u15, u16, u17, u18, u19, u20, u21, u22, u23, u24, u25, u26, u27, u28, u29, u30, u31, u32, u33, u34, u35, u36, u37, u38, u39, u40, u41, u42, u43, u44, u45, u46, u47, u48, u49, u50, u51, u52, u53, u54, u55, u56, u57, u58, u59, u60, u61, u62, u63, u64, u65, u66, u67, u68, u69, u70, u71, u72, u73, u74, u75, u76, u77, u78, u79, u80, u81, u82, u83, u84, u85, u86, u87, u88, u89, u90, u91, u92, u93, u94, u95, u96, u97, u98, u99, u100, u101, u102, u103, u104, u105, u106, u107, u108, u109, u110, u111, u112, u113, u114], defers := Ds.map mkD }) (2 * zerS n m1 + T1.length) ?atStart ?round
  case atStart =>
    (repeat apply Exists.intro)
    exact ⟨⟨rfl, HZ0, HI1, HM2, HH2, HL2, HR2⟩, rfl⟩
  case round =>
    clear HI1 HM2 HH2 HL2 HR2 HZ0
    intro gk _ wr hinv
    obtain ⟨u11, hinv⟩ := hinv
    obtain ⟨u12, hinv⟩ := hinv
    obtain ⟨u13, hinv⟩ := hinv
    obtain ⟨u14, hinv⟩ := hinv
    obtain ⟨u15, hinv⟩ := hinv
    obtain ⟨u16, hinv⟩ := hinv
    obtain ⟨u17, hinv⟩ := hinv
    obtain ⟨u18, hinv⟩ := hinv
    obtain ⟨u19, hinv⟩ := hinv
    obtain ⟨u20, hinv⟩ := hinv
    obtain ⟨u21, hinv⟩ := hinv
    obtain ⟨u22, hinv⟩ := hinv
    obtain ⟨u23, hinv⟩ := hinv
    obtain ⟨u24, hinv⟩ := hinv
    obtain ⟨u25, hinv⟩ := hinv
    obtain ⟨u26, hinv⟩ := hinv
    obtain ⟨u27, hinv⟩ := hinv
    obtain ⟨u28, hinv⟩ := hinv
    obtain ⟨u29, hinv⟩ := hinv
    obtain ⟨u30, hinv⟩ := hinv
    obtain ⟨u31, hinv⟩ := hinv
    obtain ⟨u32, hinv⟩ := hinv
    obtain ⟨u33, hinv⟩ := hinv
    obtain ⟨u34, hinv⟩ := hinv
    obtain ⟨u35, hinv⟩ := hinv
    obtain ⟨u36, hinv⟩ := hinv
    obtain ⟨u37, hinv⟩ := hinv
    obtain ⟨u38, hinv⟩ := hinv
    obtain ⟨u39, hinv⟩ := hinv
    obtain ⟨u40, hinv⟩ := hinv
    obtain ⟨u41, hinv⟩ := hinv
    obtain ⟨u42, hinv⟩ := hinv
    obtain ⟨u43, hinv⟩ := hinv
    obtain ⟨u44, hinv⟩ := hinv
    obtain ⟨u45, hinv⟩ := hinv
    obtain ⟨u46, hinv⟩ := hinv
    obtain ⟨u47, hinv⟩ := hinv
    obtain ⟨u48, hinv⟩ := hinv
    obtain ⟨u49, hinv⟩ := hinv
    obtain ⟨u50, hinv⟩ := hinv
    obtain ⟨u51, hinv⟩ := hinv
    obtain ⟨u52, hinv⟩ := hinv
    obtain ⟨u53, hinv⟩ := hinv
    obtain ⟨u54, hinv⟩ := hinv
    obtain ⟨u55, hinv⟩ := hinv
    obtain ⟨u56, hinv⟩ := hinv
    obtain ⟨u57, hinv⟩ := hinv
    obtain ⟨u58, hinv⟩ := hinv
    obtain ⟨u59, hinv⟩ := hinv
    obtain ⟨u60, hinv⟩ := hinv
    obtain ⟨u61, hinv⟩ := hinv
    obtain ⟨u62, hinv⟩ := hinv
    obtain ⟨u63, hinv⟩ := hinv
    obtain ⟨u64, hinv⟩ := hinv
    obtain ⟨u65, hinv⟩ := hinv
    obtain ⟨u66, hinv⟩ := hinv
    obtain ⟨u67, hinv⟩ := hinv
    obtain ⟨u68, hinv⟩ := hinv
    obtain ⟨u69, hinv⟩ := hinv
    obtain ⟨u70, hinv⟩ := hinv
    obtain ⟨u71, hinv⟩ := hinv
    obtain ⟨u72, hinv⟩ := hinv
    obtain ⟨u73, hinv⟩ := hinv
    obtain ⟨u74, hinv⟩ := hinv
    obtain ⟨u75, hinv⟩ := hinv
    obtain ⟨u76, hinv⟩ := hinv
    obtain ⟨u77, hinv⟩ := hinv
    obtain ⟨u78, hinv⟩ := hinv
    obtain ⟨u79, hinv⟩ := hinv
    obtain ⟨u80, hinv⟩ := hinv
    obtain ⟨u81, hinv⟩ := hinv
    obtain ⟨u82, hinv⟩ := hinv
    obtain ⟨u83, hinv⟩ := hinv
    obtain ⟨u84, hinv⟩ := hinv
    obtain ⟨u85, hinv⟩ := hinv
    obtain ⟨u86, hinv⟩ := hinv
    obtain ⟨u87, hinv⟩ := hinv
    obtain ⟨u88, hinv⟩ := hinv
    obtain ⟨u89, hinv⟩ := hinv
    obtain ⟨u90, hinv⟩ := hinv
    obtain ⟨u91, hinv⟩ := hinv
    obtain ⟨u92, hinv⟩ := hinv
    obtain ⟨u93, hinv⟩ := hinv
    obtain ⟨u94, hinv⟩ := hinv
    obtain ⟨u95, hinv⟩ := hinv
    obtain ⟨u96, hinv⟩ := hinv
    obtain ⟨u97, hinv⟩ := hinv
    obtain ⟨u98, hinv⟩ := hinv
    obtain ⟨u99, hinv⟩ := hinv
    obtain ⟨u100, hinv⟩ := hinv
    obtain ⟨u101, hinv⟩ := hinv
    obtain ⟨u102, hinv⟩ := hinv
    obtain ⟨u103, hinv⟩ := hinv
    obtain ⟨u104, hinv⟩ := hinv
    obtain ⟨u105, hinv⟩ := hinv
    obtain ⟨u106, hinv⟩ := hinv
    obtain ⟨u107, hinv⟩ := hinv
    obtain ⟨u108, hinv⟩ := hinv
    obtain ⟨u109, hinv⟩ := hinv
    obtain ⟨u110, hinv⟩ := hinv
    obtain ⟨u111, hinv⟩ := hinv
    obtain ⟨u112, hinv⟩ := hinv
    obtain ⟨u113, hinv⟩ := hinv
    obtain ⟨u114, hinv⟩ := hinv
    obtain ⟨m, t, T, Ds, ⟨hgk, HGK, HI, HM, HH, HL2, HR⟩, ha⟩ := hinv
    subst ha hgk
    dsimp only
    intro _ _ _ _
    rcases List.eq_nil_or_concat T with rfl | ⟨T', i, hTc⟩
    · obtain ⟨v, hv, ho, _⟩ := HM.out.todo
      obtain ⟨A, c, hva⟩ := own_shape ho
      subst hva
      have q0 : wr.cell? ⟨TB, 0, none⟩ = some (.slice A 0 c) := heap_cell (i := 0) hv rfl
      have q1 := heap_cell (i := 0) HM.out.mb rfl
      clear hv ho
      go_wp2_with fail
      refine leaves_marks (BB + 1) Ds wr HR.out (by have := HL2.out.size; have := HS1.out; omega) fun w' hb hc => ?_
      refine ⟨_, results_tmp (t := 6) rfl _ _ _, G, m, rfl, by have := HNUM.out; omega, ?_, ?_, ?_⟩
      · obtain ⟨cs, h1, h2⟩ := HM.out.marks
        exact ⟨cs, (hc _ _ _ _ h1).trans h1, h2⟩
      · intro b i hi
        have := HI.out.all b i (by rw [HWn.out]; exact hi)
        exact this
      · have h1 := HB1.out.trans (HL2.out.to (b := F) (by have := HNUM.out; omega) (by have := HNUM.out; omega) (by have := HNUM.out; omega) (by have := HNUM.out; omega))
        rw [← HNUM.out.1]
        exact h1.trans (hb.mono (by have := HNUM.out; omega))
    · rw [List.concat_eq_append] at hTc
      subst hTc
      obtain ⟨v, hv, ho, _⟩ := HM.out.todo
      obtain ⟨L, hL⟩ : ∃ L, (T'.map fun i : Nat => (i : Int)) = L := ⟨_, rfl⟩
      have hLl : L.length = T'.length := by rw [← hL]; simp
      rw [List.map_append, hL] at ho
      obtain ⟨g, cap, hvg, hgB, hgw⟩ := own_last ho
      subst hvg
      obtain ⟨ho3, c3, hcap⟩ := own_init ho
      obtain ⟨N, hN⟩ : ∃ N, L.length = N := ⟨_, rfl⟩
      obtain ⟨M, hM⟩ : ∃ M, N + 1 = M := ⟨_, rfl⟩
      have hin : i < n := by have := HI.out.lt i (by simp); rwa [HWn.out] at this
      rw [hN] at hv c3 hcap ho3 hLl
      rw [hM] at hv hcap
      have q0 := heap_cell (i := 0) hv rfl
      have qz := heap_thaw hv 0
      have htb := heap_lt hv
      have HO3 := lhid ho3
      have HL3 := lhid (show (T'.map fun i : Nat => (i : Int)) = L ∧ L.length = N ∧ N = T'.length ∧ N + 1 = M ∧ BB + 1 ≤ g ∧ g < wr.heap.size from ⟨hL, hN, hLl, hM, hgB, hgw⟩)
      have HV := lhid hv
      have hw1' : wrap64 ((M : Int) - 1) = (N : Int) := by rw [IntWalk.wrap64_in _ (by have := HGK.out; simp at this; omega)]; omega
      have k0 : (0 : Int) < M := by omega
      have k1 : (N : Int) < M := by omega
      have k2 : (N : Int) ≤ cap := by omega
      have k3 : ¬ cap = 0 := by omega
      have k4 : ¬ TB = wr.heap.size := by omega
      have k5 : ¬ wr.heap.size = TB := by omega
      clear hL hLl hN hM ho ho3 hcap hgB hv
      go_upto_region 9 with fail
      generalize hw3 : World.alloc _ _ = w3
      generalize hIB : wr.heap.size = IB at *
      have hc2 : Ch (fun k => k = TB) wr (wr.setCell ⟨TB, 0, none⟩ (.slice (some ⟨g, 0, none⟩) N cap)) := (Ch.refl (fun k => k = TB) wr).set (p := ⟨TB, 0, none⟩) (fun _ => rfl) _
      have hs2 : (wr.setCell ⟨TB, 0, none⟩ (.slice (some ⟨g, 0, none⟩) N cap)).heap.size = IB := by rw [← hIB]; simp
      have HM3 : Hid (SpM F MB TB G (BB + 1) n (.slice FA f.regs.length ac) (.slice FB f.params.length bc) f.ret (.slice D n dcap) (.slice E f.rows.length ecap) (.slice (some ⟨gn, 0, none⟩) n n) (.slice (some ⟨gs, 0, none⟩) n n) (fun k => k = IB) m T' w3) := lhid (by rw [← hw3]; exact HM.out.pop HD.out HV.out (by have := HO3.out; rw [← HL3.out.1] at this; exact this) hIB.symm (fun _ h => h) (by have := HL3.out; omega))
      have HIB3 : Hid (w3.heap[IB]? = some (.cells #[.int .i64 (i : Int)] 3 (0, 0))) := lhid (by rw [← hw3]; exact heap_alloc_new' _ _ _ hs2.symm)
      have HH3 : Hid (Msk w3 H (n + 1) t) := lhid (by rw [← hw3]; exact (HH.out.of (hc2.block H HH.out.lt (by have := HNUM.out; omega))).below ((Below.refl _ _).alloc (Nat.le_refl _) _))
      have HLL3 : Hid (SpL G TB H (BB + 1) w1 w3) := lhid (by rw [← hw3]; exact (HL2.out.set HV.out (by omega) _).trans (SpL.of_below ((Below.refl _ _).alloc (Nat.le_refl _) _) (by have := HL2.out.size; have := HS1.out; omega)))
      have HR3 : Hid (MrkD w3 (BB + 1) Ds) := lhid (HR.out.of (G := G) (TB := TB) (H := H) (B := BB + 1) (by rw [← hw3]; exact ((SpL.refl G TB H (BB + 1) wr).set HV.out (by omega) _).trans (SpL.of_below ((Below.refl _ _).alloc (Nat.le_refl _) _) (by have := HL2.out.size; have := HS1.out; omega))))
      have HSI : Hid (Sp1 (webN f) beg (fun _ => 0) i [] m t T') := lhid (Sp1.start HI.out)
      have HZ3 : Hid (2 * zerS n m + T'.length + 1 ≤ 128 * n) := lhid (by have := HGK.out; simp at this; omega)
      have hBw : Below F w w3 := HB1.out.trans (HLL3.out.to (b := F) (by have := HNUM.out; omega) (by have := HNUM.out; omega) (by have := HNUM.out; omega) (by have := HNUM.out; omega))
      have HBw : Hid (Below w.heap.size w w3) := lhid (by rw [← HNUM.out.1]; exact hBw)
      have HIBs : Hid (IB = wr.heap.size ∧ BB + 1 ≤ IB ∧ IB < w3.heap.size) := lhid ⟨hIB.symm, by have := HL2.out.size; have := HS1.out; omega, heap_lt HIB3.out⟩
      have hnl := HL.out.at' hin hin
      obtain ⟨lv, hlc, hlo⟩ := hnl
      replace hlc := (HBw.out.cell (p := ⟨gn, i, none⟩) (cell_lt hlc)).trans hlc
      obtain ⟨LA, lcap, hlv⟩ := own_shape hlo
      subst hlv
      obtain ⟨NX, hNX⟩ : ∃ NX, nextL f (i : Int) = NX := ⟨_, rfl⟩
      rw [hNX] at hlc hlo
      have HNX := lhid hNX
      have HLO := lhid hlo
      have r0 := heap_cell (i := 0) HIB3.out rfl
      have r5 := heap_cell (i := 5) HM3.out.web rfl
      have hii : (i : Int) < n := by omega
      have HIN := lhid hin
      have HGK2 : Hid (2 * zerS n m + T'.length < 2 * zerS n m + (T' ++ [i]).length) := lhid (by simp)
      have hnx2 : NX.length ≤ 2 := by rw [← hNX]; exact nextL_two f i
      clear hc2 hs2 hw3 HM HH HL2 HR HI hBw hlo hNX hin q0 qz htb c3 hgw hw1' k0 k1 k2 k3 k4 k5 HO3 HL3 HV hIB
      go_cut [49, 50, 51] from 31 to 113 (fun a b c wc => a = .slice LA NX.length lcap ∧ b = .int .i64 NX.length ∧ c = .int .i64 0 ∧ wc = w3)
      case first =>
        go_wp2_with fail
        go_meet
        case rel => exact ⟨rfl, rfl, rfl, rfl⟩
      case rest =>
      obtain ⟨ha49, ha50, ha51, hwc⟩ := hcut
      replace hwc := hwc.symm
      subst ha49 ha50 ha51 hwc
      clear hlc r5 hii
      go_wp2_with fail
      go_loopg [51] NX.length (fun g s wq => ∃ (k : Nat) (m2 : Nat → Mk) (T2 : List Nat), g = NX.length - k ∧ s = .int .i64 k ∧ k ≤ NX.length ∧ Hid (2 * zerS n m2 + T2.length ≤ 2 * zerS n m + T'.length) ∧ Hid (Sp1 (webN f) beg (fun _ => 0) i (NX.take k) m2 t T2) ∧ Hid (SpM F MB TB G (BB + 1) n (.slice FA f.regs.length ac) (.slice FB f.params.length bc) f.ret (.slice D n dcap) (.slice E f.rows.length ecap) (.slice (some ⟨gn, 0, none⟩) n n) (.slice (some ⟨gs, 0, none⟩) n n) (fun k => k = IB) m2 T2 wq) ∧ Hid (SpK G TB (BB + 1) (fun k => k = IB) w3 wq))
      case atStart => exact ⟨0, m, T', rfl, rfl, Nat.zero_le _, lhid (Nat.le_refl _), lhid (by rw [List.take_zero]; exact HSI.out), HM3, lhid (SpK.refl _ _ _ _ _)⟩
      case round =>
        clear HM3 HSI r0
        obtain ⟨k, m2, T2, rfl, rfl, hk, HZ, HI, HM, HK⟩ := hrel
        have HFBr : Hid (wr.heap[BB]? = some (.cells #[.func (.func 99) #[] #[.pointer (some ⟨F, 0, none⟩), .pointer (some ⟨MB, 0, none⟩), .pointer (some ⟨TB, 0, none⟩)]] 131 (0, 0))) := lhid ((HK.out.low BB (by omega) (by have := HNUM.out; omega) (by have := HNUM.out; omega)).trans ((HLL3.out.low BB (by omega) (by have := HNUM.out; omega) (by have := HNUM.out; omega) (by have := HNUM.out; omega)).trans HFB.out))
        have hbq : Below F w wr := (by rw [HNUM.out.1]; exact HBw.out : Below F w w3).trans ((HK.out.l (H := H)).to (b := F) (by have := HNUM.out; omega) (by have := HNUM.out; omega) (by have := HNUM.out; omega) (by have := HNUM.out; omega))
        have HBq : Hid (Below w.heap.size w wr) := lhid (by rw [← HNUM.out.1]; exact hbq)
        have HIBr : Hid (wr.heap[IB]? = some (.cells #[.int .i64 (i : Int)] 3 (0, 0))) := lhid ((HK.out.prot IB rfl).trans HIB3.out)
        clear hbq
        by_cases hlt : k < NX.length
        · obtain ⟨x, hx⟩ : ∃ x, NX[k]? = some x := ⟨_, List.getElem?_eq_getElem hlt⟩
          obtain ⟨lg, hlg⟩ : ∃ lg, LA = some ⟨lg, 0, none⟩ := by
            rcases HLO.out.2 with ⟨_, h2⟩ | ⟨g, cap, cur, h1, _⟩
            · omega
            · injection h1 with h1
              exact ⟨g, h1⟩
          subst hlg
          have c0 : w.cell? ⟨lg, k, none⟩ = some (.int .i64 x) := by
            rw [HLO.out.cellAt k (by omega), List.getElem?_map, hx]
            rfl
          replace c0 := (HBq.out.cell (p := ⟨lg, k, none⟩) (cell_lt c0)).trans c0
          have HX := lhid hx
          have b0 := heap_cell (i := 0) HFBr.out rfl
          have b1 := heap_cell (i := 0) HM.out.mb rfl
          have b2 := heap_cell (i := 0) HIBr.out rfl
          obtain ⟨xm, hxm⟩ : ∃ xm, m2 i = xm := ⟨_, rfl⟩
          obtain ⟨ym, hym⟩ : ∃ ym, xm &&& ~~~((fun _ => 0) i) = ym := ⟨_, rfl⟩
          have b3 := HM.out.marks.at' HIN.out
          rw [hxm] at b3
          have han : bits .andNot .u64 (xm.toNat : Int) 0 = (ym.toNat : Int) := by rw [← hym]; exact andNot_u xm 0
          have HXM := lhid hxm
          have HYM := lhid hym
          have HMd : Hid (SpM F MB TB G (BB + 1) n (.slice FA f.regs.length ac) (.slice FB f.params.length bc) f.ret (.slice D n dcap) (.slice E f.rows.length ecap) (.slice (some ⟨gn, 0, none⟩) n n) (.slice (some ⟨gs, 0, none⟩) n n) (fun k => k = IB) m2 T2 wr.drew) := lhid (HM.out.below (bel_drew (Below.refl _ _)))
          have HKP : Hid (∀ w', SpK G TB (BB + 1) (fun k => k = IB) wr w' → w'.cell? ⟨BB, 0, none⟩ = some (.func (.func 99) #[] #[.pointer (some ⟨F, 0, none⟩), .pointer (some ⟨MB, 0, none⟩), .pointer (some ⟨TB, 0, none⟩)]) ∧ w'.cell? ⟨MB, 0, none⟩ = some (.slice (some ⟨G, 0, none⟩) n n) ∧ w'.cell? ⟨IB, 0, none⟩ = some (.int .i64 (i : Int))) := lhid fun w' hk' => ⟨heap_cell (i := 0) ((hk'.low BB (by omega) (by have := HNUM.out; omega) (by have := HNUM.out; omega)).trans HFBr.out) rfl, heap_cell (i := 0) ((hk'.low MB (by have := HNUM.out; omega) (by have := HNUM.out; omega) (by have := HNUM.out; omega)).trans HM.out.mb) rfl, heap_cell (i := 0) ((hk'.prot IB rfl).trans HIBr.out) rfl⟩
          have HS0 := lhid (HKP.out wr.drew (SpK.of_below (bel_drew (Below.refl _ _)) HM.out.big (fun k hk => by have := HIBs.out; have := HK.out.size; omega)))
          have HTL : Hid ((T2.length + 1) * 8 ≤ 140737488355328) := lhid (by have h1 := HZ.out; have h2 := HZ3.out; omega)
          have k3 : (k : Int) < NX.length := by omega
          have hwk : wrap64 ((k : Int) + 1) = ((k + 1 : Nat) : Int) := by rw [IntWalk.wrap64_in _ (by omega)]; omega
          have hii : (i : Int) < n := by have := HIN.out; omega
          clear hx hxm hym
          go_upto_block 3 with fail
          go_cut [51] from 51 to 66 (fun s51 wc => s51 = .int .i64 k ∧ ∃ (m3 : Nat → Mk) (T3 : List Nat), Hid (Brg n x ym m2 T2 m3 T3) ∧ Hid (SpM F MB TB G (BB + 1) n (.slice FA f.regs.length ac) (.slice FB f.params.length bc) f.ret (.slice D n dcap) (.slice E f.rows.length ecap) (.slice (some ⟨gn, 0, none⟩) n n) (.slice (some ⟨gs, 0, none⟩) n n) (fun k => k = IB) m3 T3 wc) ∧ Hid (SpK G TB (BB + 1) (fun k => k = IB) wr wc))
          case first =>
            go_upto_region 12 with fail
            refine wp_region_noPanic ?_
            refine wp_region_held_drew (S := fun w' => SpK G TB (BB + 1) (fun k => k = IB) wr w') (by kernel_rfl) (SpK.of_below (bel_drew (Below.refl _ _)) HM.out.big (fun k hk => by have := HIBs.out; have := HK.out.size; omega)) ?_
            intro hS0
            have b3d : wr.drew.cell? ⟨G, i, none⟩ = some (.int .u64 (xm.toNat : Int)) := b3
            clear b3
            refine wpAnyH_take (i := 0) (v := ?tva0) rfl (by kernel_rfl) (by kernel_rfl) (by kernel_rfl) (fun _ _ _ h => h) (Or.inl ⟨by rfl, ?tya0⟩) hS0 ?tra0
            case tya0 => (intro w' hw'; obtain ⟨y0, y1, y2⟩ := HKP.out w' hw'; go_simp; try with_reducible rfl)
            try simp only [Act.put, List.setIfInBounds_toArray, List.set_cons_zero, List.set_cons_succ]
            try simp only [List.getElem_toArray, List.getElem_cons_zero, List.getElem_cons_succ]
            refine wpAnyH_take (i := 1) (v := ?tva1) rfl (by kernel_rfl) (by kernel_rfl) (by kernel_rfl) (fun _ _ _ h => h) (Or.inl ⟨by rfl, ?tya1⟩) hS0 ?tra1
            case tya1 => (intro w' hw'; obtain ⟨y0, y1, y2⟩ := HKP.out w' hw'; go_simp; try with_reducible rfl)
            try simp only [Act.put, List.setIfInBounds_toArray, List.set_cons_zero, List.set_cons_succ]
            try simp only [List.getElem_toArray, List.getElem_cons_zero, List.getElem_cons_succ]
            refine wpAnyH_take (i := 2) (v := ?tva2) rfl (by kernel_rfl) (by kernel_rfl) (by kernel_rfl) (fun _ _ _ h => h) (Or.inl ⟨by rfl, ?tya2⟩) hS0 ?tra2
            case tya2 => (intro w' hw'; obtain ⟨y0, y1, y2⟩ := HKP.out w' hw'; go_simp; try with_reducible rfl)
            try simp only [Act.put, List.setIfInBounds_toArray, List.set_cons_zero, List.set_cons_succ]
            try simp only [List.getElem_toArray, List.getElem_cons_zero, List.getElem_cons_succ]
            refine wpAnyH_take (i := 3) (v := ?tva3) rfl (by kernel_rfl) (by kernel_rfl) (by kernel_rfl) (fun _ _ _ h => h) (Or.inl ⟨by rfl, ?tya3⟩) hS0 ?tra3
            case tya3 => (intro w' hw'; obtain ⟨y0, y1, y2⟩ := HKP.out w' hw'; go_simp; try with_reducible rfl)
            try simp only [Act.put, List.setIfInBounds_toArray, List.set_cons_zero, List.set_cons_succ]
            try simp only [List.getElem_toArray, List.getElem_cons_zero, List.getElem_cons_succ]
            refine wpAnyH_take (i := 4) (v := ?tva4) rfl (by kernel_rfl) (by kernel_rfl) (by kernel_rfl) (fun _ _ _ h => h) (Or.inl ⟨by rfl, ?tya4⟩) hS0 ?tra4
            case tya4 => (intro w' hw'; obtain ⟨y0, y1, y2⟩ := HKP.out w' hw'; go_simp; try with_reducible rfl)
            try simp only [Act.put, List.setIfInBounds_toArray, List.set_cons_zero, List.set_cons_succ]
            try simp only [List.getElem_toArray, List.getElem_cons_zero, List.getElem_cons_succ]
            refine wpAnyH_take (i := 6) (v := ?tva6) rfl (by kernel_rfl) (by kernel_rfl) (by kernel_rfl) (fun _ _ _ h => h) (Or.inl ⟨by rfl, ?tya6⟩) hS0 ?tra6
            case tya6 => (intro w' hw'; obtain ⟨y0, y1, y2⟩ := HKP.out w' hw'; go_simp; try with_reducible rfl)
            try simp only [Act.put, List.setIfInBounds_toArray, List.set_cons_zero, List.set_cons_succ]
            try simp only [List.getElem_toArray, List.getElem_cons_zero, List.getElem_cons_succ]
            refine wpAnyH_take (i := 7) (v := ?tva7) rfl (by kernel_rfl) (by kernel_rfl) (by kernel_rfl) (fun _ _ _ h => h) (Or.inl ⟨by rfl, ?tya7⟩) hS0 ?tra7
            case tya7 => (intro w' hw'; obtain ⟨y0, y1, y2⟩ := HKP.out w' hw'; go_simp; try with_reducible rfl)
            try simp only [Act.put, List.setIfInBounds_toArray, List.set_cons_zero, List.set_cons_succ]
            try simp only [List.getElem_toArray, List.getElem_cons_zero, List.getElem_cons_succ]
            refine wpAnyH_ready (rs := [5, 8]) (by kernel_rfl) (by simp) ?_
            refine AllReadyH.cons rfl (fun K hK => ?_) (AllReadyH.cons rfl (fun K hK => ?_) AllReadyH.nil)
            · go_simp
              refine hK.out _ _ hS0 (fun _ => ?_)
              clear hK K
              try simp only [Act.put, List.setIfInBounds_toArray, List.set_cons_zero, List.set_cons_succ]
              try simp only [List.getElem_toArray, List.getElem_cons_zero, List.getElem_cons_succ]
              refine wpAnyH_ready (rs := [8]) (by kernel_rfl) (by simp) ?_
              refine AllReadyH.cons rfl (fun K hK => ?_) AllReadyH.nil
              go_simp
              refine (nothing_c (i : Int) _).mono ?_
              rintro e w5 ⟨rfl, rfl⟩
              dsimp only
              refine hK.out _ _ hS0 (fun _ => ?_)
              clear hK K
              try simp only [Act.put, List.setIfInBounds_toArray, List.set_cons_zero, List.set_cons_succ]
              try simp only [List.getElem_toArray, List.getElem_cons_zero, List.getElem_cons_succ]
              refine wpAnyH_take (i := 9) (v := ?tvb9) rfl (by kernel_rfl) (by kernel_rfl) (by kernel_rfl) (fun _ _ _ h => h) (Or.inl ⟨by rfl, ?tyb9⟩) hS0 ?trb9
              case tyb9 => (intro w' hw'; go_simp; try with_reducible rfl)
              try simp only [Act.put, List.setIfInBounds_toArray, List.set_cons_zero, List.set_cons_succ]
              try simp only [List.getElem_toArray, List.getElem_cons_zero, List.getElem_cons_succ]
              refine wpAnyH_ready (rs := [10]) (by kernel_rfl) (by simp) ?_
              refine AllReadyH.cons rfl (fun K hK => ?_) AllReadyH.nil
              go_simp
              refine (bring_c F MB TB G (BB + 1) n _ _ f.ret D dcap _ _ _ (fun k => k = IB) m2 T2 x ym _ HD HMd HTL).mono ?_
              rintro e w5 ⟨rfl, m3, T3, hbr, hm5, hk5⟩
              have HK5 : Hid (SpK G TB (BB + 1) (fun k => k = IB) wr w5) := lhid ⟨hk5.os, hk5.tape, hk5.output, hk5.size, hk5.low, hk5.prot, hk5.obj, hk5.rows⟩
              have HBR := lhid hbr
              have HM5 := lhid hm5
              clear hbr hm5 hk5
              dsimp only
              refine hK.out _ _ HK5.out (fun _ => ?_)
              clear hK K
              refine wpAnyH_done (by kernel_rfl) ?_ _
              refine NoPanic.normal ?_
              go_wp2_with fail
              go_meet
              case rel => exact ⟨rfl, m3, T3, HBR, HM5, HK5⟩
            · go_simp
              refine (nothing_c (i : Int) _).mono ?_
              rintro e w5 ⟨rfl, rfl⟩
              dsimp only
              refine hK.out _ _ hS0 (fun _ => ?_)
              clear hK K
              try simp only [Act.put, List.setIfInBounds_toArray, List.set_cons_zero, List.set_cons_succ]
              try simp only [List.getElem_toArray, List.getElem_cons_zero, List.getElem_cons_succ]
              refine wpAnyH_ready (rs := [5]) (by kernel_rfl) (by simp) ?_
              refine AllReadyH.cons rfl (fun K hK => ?_) AllReadyH.nil
              go_simp
              refine hK.out _ _ hS0 (fun _ => ?_)
              clear hK K
              try simp only [Act.put, List.setIfInBounds_toArray, List.set_cons_zero, List.set_cons_succ]
              try simp only [List.getElem_toArray, List.getElem_cons_zero, List.getElem_cons_succ]
              refine wpAnyH_take (i := 9) (v := ?tvc9) rfl (by kernel_rfl) (by kernel_rfl) (by kernel_rfl) (fun _ _ _ h => h) (Or.inl ⟨by rfl, ?tyc9⟩) hS0 ?trc9
              case tyc9 => (intro w' hw'; go_simp; try with_reducible rfl)
              try simp only [Act.put, List.setIfInBounds_toArray, List.set_cons_zero, List.set_cons_succ]
              try simp only [List.getElem_toArray, List.getElem_cons_zero, List.getElem_cons_succ]
              refine wpAnyH_ready (rs := [10]) (by kernel_rfl) (by simp) ?_
              refine AllReadyH.cons rfl (fun K hK => ?_) AllReadyH.nil
              go_simp
              refine (bring_c F MB TB G (BB + 1) n _ _ f.ret D dcap _ _ _ (fun k => k = IB) m2 T2 x ym _ HD HMd HTL).mono ?_
              rintro e w5 ⟨rfl, m3, T3, hbr, hm5, hk5⟩
              have HK5 : Hid (SpK G TB (BB + 1) (fun k => k = IB) wr w5) := lhid ⟨hk5.os, hk5.tape, hk5.output, hk5.size, hk5.low, hk5.prot, hk5.obj, hk5.rows⟩
              have HBR := lhid hbr
              have HM5 := lhid hm5
              clear hbr hm5 hk5
              dsimp only
              refine hK.out _ _ HK5.out (fun _ => ?_)
              clear hK K
              refine wpAnyH_done (by kernel_rfl) ?_ _
              refine NoPanic.normal ?_
              go_wp2_with fail
              go_meet
              case rel => exact ⟨rfl, m3, T3, HBR, HM5, HK5⟩
          case rest =>
            obtain ⟨hs51, m3, T3, HBR, HM5, HK5⟩ := hcut
            subst hs51
            have HZ5 : Hid (2 * zerS n m3 + T3.length ≤ 2 * zerS n m + T'.length) := lhid (Nat.le_trans HBR.out.less HZ.out)
            have HI5 : Hid (Sp1 (webN f) beg (fun _ => 0) i (NX.take (k + 1)) m3 t T3) := lhid (by
              rw [take_snoc HX.out]
              refine HI.out.step ?_ (by rw [HWn.out, HXM.out, HYM.out]; exact HBR.out)
              have h9 := List.mem_of_getElem? HX.out
              rw [← HNX.out] at h9
              exact h9)
            have HKn := lhid (HK.out.trans HK5.out)
            clear HS0 HMd HKP b0 b1 b2 b3 c0
            go_wp2_with fail
            go_roundg (NX.length - (k + 1))
            case measure => omega
            case rel => exact ⟨k + 1, m3, T3, rfl, by first | rfl | rw [hwk], by omega, HZ5, HI5, HM5, HKn⟩
        · have k3 : ¬ (k : Int) < NX.length := by omega
          have hke : k = NX.length := by omega
          subst hke
          have hI2 := HI.out
          rw [List.take_length, ← HNX.out] at hI2
          have HI2 : Hid (Sp1 (webN f) beg (fun _ => 0) i ((webN f).nx i) m2 t T2) := lhid hI2
          clear hI2 HI
          obtain ⟨wq, hwq⟩ : ∃ x, x = wr := ⟨_, rfl⟩
          subst hwq
          have b2 := heap_cell (i := 0) HIBr.out rfl
          have b6 := heap_cell (i := 6) HM.out.web rfl
          have hn0 := HS.out.at' HIN.out HIN.out
          have hn1 := (HBq.out.cell (p := ⟨gs, i, none⟩) (cell_lt hn0)).trans hn0
          have hii : (i : Int) < n := by have := HIN.out; omega
          obtain ⟨s, hs⟩ : ∃ s, (webN f).st i = s := ⟨_, rfl⟩
          have hsn : strN f.rows i = (s : Int) ∧ s < n + 1 := by
            have h1 := strB_at f.rows (i + 1)
            have e1 : strB f.rows (i + 1) = strN f.rows i := rfl
            have e2 : (strN f.rows i).toNat = s := hs
            have h2 := HIN.out
            rw [e1] at h1
            omega
          rw [hsn.1] at hn1
          have HSV := lhid hsn
          have HSS := lhid hs
          clear hn0 hs hsn
          obtain ⟨x, hx⟩ : ∃ x, f.code[i]? = some x := ⟨_, List.getElem?_eq_getElem (by have h1 := HN.out; have h2 := HIN.out; omega)⟩
          obtain ⟨cg, co, cv, hDD, _, hcv, c0, c1, c2, c3, c4, c5, c6, c7, c8⟩ := in_cells HFU.out.d hx
          obtain ⟨CVA, cvc, hcv0⟩ := hcv.shape
          subst hcv0
          have kc : ∀ {p : Addr} {u : Value}, w.cell? p = some u → wq.cell? p = some u := fun {p u} hq => (HBq.out.cell (p := p) (cell_lt hq)).trans hq
          have HTH : (webN f).th i = throwsB x.op := by show (match f.code[i]? with | some x => throwsB x.op | none => false) = _; rw [hx]
          obtain ⟨tb, htb⟩ : ∃ tb, throwsB x.op = tb := ⟨_, rfl⟩
          rw [htb] at HTH
          have HTB := lhid htb
          have HTH2 := lhid HTH
          obtain ⟨xm, hxm⟩ : ∃ xm, m2 i = xm := ⟨_, rfl⟩
          obtain ⟨yt, hyt⟩ : ∃ yt, t s = yt := ⟨_, rfl⟩
          have b3 := HM.out.marks.at' HIN.out
          rw [hxm] at b3
          have hHq : Msk wq H (n + 1) t := HH3.out.of (HK.out.low H (by have := HNUM.out; omega) (by have := HNUM.out; omega) (by have := HNUM.out; omega))
          have b4 := hHq.at' HSV.out.2
          rw [hyt] at b4
          have HHq := lhid hHq
          have HXM := lhid hxm
          have HYT := lhid hyt
          have b1 := heap_cell (i := 0) HM.out.mb rfl
          have b7 : wq.cell? ⟨F, 3, none⟩ = some (.slice (some ⟨cg, co, none⟩) n dcap) := by rw [← hDD]; exact heap_cell (i := 3) HM.out.web rfl
          clear hDD
          have HXX : Hid (∀ w', Below wq.heap.size wq w' → w'.cell? ⟨F, 3, none⟩ = some (.slice (some ⟨cg, co, none⟩) n dcap) ∧ w'.cell? ⟨IB, 0, none⟩ = some (.int .i64 (i : Int)) ∧ w'.cell? ⟨MB, 0, none⟩ = some (.slice (some ⟨G, 0, none⟩) n n) ∧ w'.cell? ⟨G, i, none⟩ = some (.int .u64 (xm.toNat : Int)) ∧ w'.cell? ⟨H, s, none⟩ = some (.int .u64 (yt.toNat : Int)) ∧ w'.cell? ⟨cg, co + i * 9, none⟩ = some (.int .i64 x.op) ∧ w'.cell? ⟨cg, co + i * 9 + 1, none⟩ = some (.int .i64 x.dst) ∧ w'.cell? ⟨cg, co + i * 9 + 2, none⟩ = some (.int .i64 x.a) ∧ w'.cell? ⟨cg, co + i * 9 + 3, none⟩ = some (.int .i64 x.b) ∧ w'.cell? ⟨cg, co + i * 9 + 4, none⟩ = some (.int .i64 x.c) ∧ w'.cell? ⟨cg, co + i * 9 + 5, none⟩ = some (.int .i64 x.num) ∧ w'.cell? ⟨cg, co + i * 9 + 6, none⟩ = some (.int .i64 x.too) ∧ w'.cell? ⟨cg, co + i * 9 + 7, none⟩ = some (.string (tx x.ref)) ∧ w'.cell? ⟨cg, co + i * 9 + 8, none⟩ = some (.slice CVA x.args.length cvc)) := lhid fun w' hb => by
            have k9 : ∀ {p : Addr} {u : Value}, wq.cell? p = some u → w'.cell? p = some u := fun {p u} hq => (hb.cell (p := p) (cell_lt hq)).trans hq
            exact ⟨k9 b7, k9 b2, k9 b1, k9 b3, k9 b4, k9 (kc c0), k9 (kc c1), k9 (kc c2), k9 (kc c3), k9 (kc c4), k9 (kc c5), k9 (kc c6), k9 (kc c7), k9 (kc c8)⟩
          have k9 : (s : Int) < (n : Int) + 1 := by have := HSV.out.2; omega
          have HCVL := lhid hcv.len
          clear hx kc HTH htb hxm hyt c0 c1 c2 c3 c4 c5 c6 c7 c8 hcv hHq b3 b4 b1 b7
          go_upto_region 15 with fail
          clear b2 b6 hn1
          obtain ⟨cc, hcc⟩ : ∃ cc, (tb && decide (xm &&& ~~~yt ≠ 0)) = cc := ⟨_, rfl⟩
          go_cut [90] from 31 to 113 (fun t90 wc => t90 = .bool cc ∧ Hid (Below wq.heap.size wq wc))
          case first =>
            cases tb with
            | false =>
              have hcf : cc = false := by rw [← hcc]; rfl
              subst hcf
              clear hcc
              refine wp_region_noPanic ?_
              refine wp_region_quiet_c (C := fun w' => Below wq.heap.size wq w') (by kernel_rfl) (by kernel_rfl) (Below.drew' (Below.refl _ _)) ?_
              repeat (first
                | go_big_quiet_skip
                | (go_big_quiet_want
                   first
                     | (refine quiet_of_run (v := ?_) (fun w' hw' => ?_) ?_
                        rotate_left
                        · (obtain ⟨y0, y1, y2, y3, y4, y5, y6, y7, y8, y9, y10, y11, y12, y13⟩ := HXX.out w' hw'; go_simp; try with_reducible rfl)
                        go_big_quiet_on
                        try simp only [Act.put, List.setIfInBounds_toArray, List.set_cons_zero, List.set_cons_succ])
                     | (refine quiet_of_call (v := .bool false) (f := 100) (args := #[inA x (.slice CVA x.args.length cvc)]) (fun w' hw' => ?_) (fun w' hw' => ?_) ?_
                        · (go_simp; try with_reducible rfl)
                        · (refine (throws_r x _ false _ HTB).mono ?_
                           rintro e w5 ⟨rfl, hb5⟩
                           exact ⟨rfl, hw'.trans (hb5.mono hw'.size)⟩)
                        go_big_quiet_on
                        try simp only [Act.put, List.setIfInBounds_toArray, List.set_cons_zero, List.set_cons_succ])))
              refine wpQuiet_nil ?_
              intro wx hwx
              have HWX := lhid hwx
              clear hwx
              refine NoPanic.normal ?_
              go_wp2_with fail
              go_meet
              case rel => exact ⟨rfl, HWX⟩
            | true =>
              by_cases hz : xm &&& ~~~yt = 0
              · have hcf : cc = false := by rw [← hcc, hz]; rfl
                subst hcf
                have hne : (bits .andNot .u64 (xm.toNat : Int) (yt.toNat : Int) != 0) = false := by rw [andNot_u, ne_u, hz]; rfl
                clear hcc hz
                refine wp_region_noPanic ?_
                refine wp_region_quiet_c (C := fun w' => Below wq.heap.size wq w') (by kernel_rfl) (by kernel_rfl) (Below.drew' (Below.refl _ _)) ?_
                repeat (first
                  | go_big_quiet_skip
                  | (go_big_quiet_want
                     first
                       | (refine quiet_of_run (v := ?_) (fun w' hw' => ?_) ?_
                          rotate_left
                          · (obtain ⟨y0, y1, y2, y3, y4, y5, y6, y7, y8, y9, y10, y11, y12, y13⟩ := HXX.out w' hw'; go_simp; try with_reducible rfl)
                          go_big_quiet_on
                          try simp only [Act.put, List.setIfInBounds_toArray, List.set_cons_zero, List.set_cons_succ])
                       | (refine quiet_of_call (v := .bool true) (f := 100) (args := #[inA x (.slice CVA x.args.length cvc)]) (fun w' hw' => ?_) (fun w' hw' => ?_) ?_
                          · (go_simp; try with_reducible rfl)
                          · (refine (throws_r x _ true _ HTB).mono ?_
                             rintro e w5 ⟨rfl, hb5⟩
                             exact ⟨rfl, hw'.trans (hb5.mono hw'.size)⟩)
                          go_big_quiet_on
                          try simp only [Act.put, List.setIfInBounds_toArray, List.set_cons_zero, List.set_cons_succ])))
                refine wpQuiet_nil ?_
                intro wx hwx
                have HWX := lhid hwx
                clear hwx
                refine NoPanic.normal ?_
                go_wp2_with fail
                go_meet
                case rel => exact ⟨rfl, HWX⟩
              · have hcf : cc = true := by rw [← hcc, decide_eq_true (by exact hz)]; rfl
                subst hcf
                have hne : (bits .andNot .u64 (xm.toNat : Int) (yt.toNat : Int) != 0) = true := by rw [andNot_u, ne_u]; exact decide_eq_true hz
                clear hcc hz
                refine wp_region_noPanic ?_
                refine wp_region_quiet_c (C := fun w' => Below wq.heap.size wq w') (by kernel_rfl) (by kernel_rfl) (Below.drew' (Below.refl _ _)) ?_
                repeat (first
                  | go_big_quiet_skip
                  | (go_big_quiet_want
                     first
                       | (refine quiet_of_run (v := ?_) (fun w' hw' => ?_) ?_
                          rotate_left
                          · (obtain ⟨y0, y1, y2, y3, y4, y5, y6, y7, y8, y9, y10, y11, y12, y13⟩ := HXX.out w' hw'; go_simp; try with_reducible rfl)
                          go_big_quiet_on
                          try simp only [Act.put, List.setIfInBounds_toArray, List.set_cons_zero, List.set_cons_succ])
                       | (refine quiet_of_call (v := .bool true) (f := 100) (args := #[inA x (.slice CVA x.args.length cvc)]) (fun w' hw' => ?_) (fun w' hw' => ?_) ?_
                          · (go_simp; try with_reducible rfl)
                          · (refine (throws_r x _ true _ HTB).mono ?_
                             rintro e w5 ⟨rfl, hb5⟩
                             exact ⟨rfl, hw'.trans (hb5.mono hw'.size)⟩)
                          go_big_quiet_on
                          try simp only [Act.put, List.setIfInBounds_toArray, List.set_cons_zero, List.set_cons_succ])))
                refine wpQuiet_nil ?_
                intro wx hwx
                have HWX := lhid hwx
                clear hwx
                refine NoPanic.normal ?_
                go_wp2_with fail
                go_meet
                case rel => exact ⟨rfl, HWX⟩
          case rest =>
            obtain ⟨h90, HWC⟩ := hcut
            subst h90
            have hBq : BB + 1 ≤ wq.heap.size := HM.out.big
            have HMc := lhid (HM.out.below HWC.out)
            have HHc := lhid (HHq.out.below HWC.out)
            have HIBc : Hid (wc.heap[IB]? = some (.cells #[.int .i64 (i : Int)] 3 (0, 0))) := lhid (heap_keep HIBr.out HWC.out)
            have HFBc : Hid (wc.heap[BB]? = some (.cells #[.func (.func 99) #[] #[.pointer (some ⟨F, 0, none⟩), .pointer (some ⟨MB, 0, none⟩), .pointer (some ⟨TB, 0, none⟩)]] 131 (0, 0))) := lhid (heap_keep HFBr.out HWC.out)
            have hl3c : SpL G TB H (BB + 1) w3 wc := (HK.out.l).trans (SpL.of_below HWC.out hBq)
            have HLc : Hid (SpL G TB H (BB + 1) w1 wc) := lhid (HLL3.out.trans hl3c)
            have HRc : Hid (MrkD wc (BB + 1) Ds) := lhid (HR3.out.of hl3c)
            have HBc : Hid (Below w.heap.size w wc) := lhid (HBq.out.trans (HWC.out.mono HBq.out.size))
            have HIBz : Hid (BB + 1 ≤ IB ∧ IB < wc.heap.size) := lhid ⟨HIBs.out.2.1, heap_lt HIBc.out⟩
            have HCC := lhid hcc
            clear hcc hBq hl3c HWC HXX HBq HIBr HFBr HK HM HHq
            cases cc with
            | false =>
              have HSP : Hid (SpI (webN f) beg (fun _ => 0) m2 t T2) := lhid (HI2.out.skip (fun hth => by
                have h1 := HCC.out
                rw [HTH2.out] at hth
                subst hth
                rw [Bool.true_and, decide_eq_false_iff_not, Classical.not_not] at h1
                rw [HSS.out, HXM.out, HYT.out]
                exact h1))
              have HMf := lhid HMc.out.free
              have HZf : Hid (2 * zerS n m2 + T2.length ≤ 128 * n) := lhid (by have h1 := HZ.out; have h2 := HZ3.out; omega)
              clear HI2 HMc HSS HSV
              go_wp2_with fail
              refine Handed.intro (2 * zerS n m2 + T2.length) ?measure ?_
              rotate_left
              go_step
              (repeat apply Exists.intro)
              exact ⟨⟨rfl, HZf, HSP, HMf, HHc, HLc, HRc⟩, rfl⟩
              case measure => (have h1 := HZ.out; have h2 := HGK2.out; omega)
            | true =>
              have htt : tb = true := by have h1 := HCC.out; rw [Bool.and_eq_true] at h1; exact h1.1
              obtain ⟨zt, hzt⟩ : ∃ zt, yt ||| xm = zt := ⟨_, rfl⟩
              have hor : bits .or .u64 (yt.toNat : Int) (xm.toNat : Int) = (zt.toNat : Int) := by rw [or_u, hzt]
              have HZT := lhid hzt
              have b1 := heap_cell (i := 0) HMc.out.mb rfl
              have b2 := heap_cell (i := 0) HIBc.out rfl
              have b3 := HMc.out.marks.at' HIN.out
              rw [HXM.out] at b3
              have b4 := HHc.out.at' HSV.out.2
              rw [HYT.out] at b4
              have b4z := HHc.out.fz s
              have b4l := HHc.out.lt
              clear hzt
              go_upto_region 16 with fail
              refine wp_region_noPanic ?_
              go_region
              refine NoPanic.normal ?_
              generalize hw7 : World.drew _ = w7
              have hc7 : Ch (fun k => k = H) wc w7 := by rw [← hw7]; exact ((Ch.refl (fun k => k = H) wc).set (p := ⟨H, s, none⟩) (fun _ => rfl) _).drew
              have HT7 : Hid (Msk w7 H (n + 1) (fun j => if j = s then zt else t j)) := lhid (by rw [← hw7]; exact HHc.out.put zt)
              have HM7 := lhid (HMc.out.ch hc7 (fun k e => by have := HNUM.out; exact ⟨by omega, by omega, by omega, by omega⟩) (fun k e => .inl (by have := HNUM.out; omega)))
              obtain ⟨hcs, hHo, _⟩ := HHc.out
              have hl7 : SpL G TB H (BB + 1) wc w7 := by
                rw [← hw7]
                have h1 := (SpL.refl G TB H (BB + 1) wc).set (i := s) hHo (by omega) (.int .u64 (zt.toNat : Int))
                exact ⟨h1.os, h1.tape, h1.output, h1.size, h1.low, h1.obj⟩
              have HL7 := lhid (HLc.out.trans hl7)
              have HR7 := lhid (HRc.out.of hl7)
              have HIB7 : Hid (w7.heap[IB]? = some (.cells #[.int .i64 (i : Int)] 3 (0, 0))) := lhid (hc7.keep HIBc.out (by have := HNUM.out; have := HIBz.out; omega))
              have HFB7 : Hid (w7.heap[BB]? = some (.cells #[.func (.func 99) #[] #[.pointer (some ⟨F, 0, none⟩), .pointer (some ⟨MB, 0, none⟩), .pointer (some ⟨TB, 0, none⟩)]] 131 (0, 0))) := lhid (hc7.keep HFBc.out (by have := HNUM.out; omega))
              have HB7 : Hid (Below w.heap.size w w7) := lhid (HBc.out.trans (hc7.to (by have := HBc.out.size; omega) (fun k e => by have := HNUM.out; omega)))
              have HS2 : Hid (Sp2I (webN f) beg (fun _ => 0) i [] m2 (fun j => if j = s then zt else t j) T2) := lhid (fun _ => Sp2.start HI2.out (by rw [HTH2.out]; exact htt) (by rw [HSS.out, HYT.out, HXM.out, if_pos rfl]; exact HZT.out.symm) (fun q hq => by rw [HSS.out] at hq; rw [if_neg hq]))
              have HIB9 : Hid (BB + 1 ≤ IB ∧ IB < w7.heap.size ∧ BB + 1 ≤ w7.heap.size) := lhid ⟨HIBz.out.1, heap_lt HIB7.out, HM7.out.big⟩
              have b4e := heap_cell (i := 4) HM7.out.web rfl
              have b2e := heap_cell (i := 0) HIB7.out rfl
              clear hw7 hc7 hHo hl7 hor b1 b2 b3 b4 b4z b4l HMc HHc HLc HRc HIBc HFBc HBc HI2 HSS HSV HXM HYT HZT HTH2 HCC htt HIBz
              go_wp2_with fail
              with_reducible refine (catchers_c E f.rows.length ecap (i : Int) w7).mono ?_
              rintro e w8 ⟨rfl, hw8⟩
              have h78 : Below w7.heap.size w7 w8 := by rw [hw8]; exact ((Below.refl _ _).alloc (Nat.le_refl _) _).alloc (by simp) _
              have hs8 : w8.heap.size = w7.heap.size + 2 := by rw [hw8]; simp
              have hp8 : w8.cell? ⟨w7.heap.size, 0, none⟩ = some (.slice E f.rows.length ecap) := by rw [hw8]; exact heap_cell ((Below.heap_alloc _ _ _ (by simp)).trans (heap_alloc_new w7 _)) rfl
              have hq8 : w8.cell? ⟨w7.heap.size + 1, 0, none⟩ = some (.int .i64 (i : Int)) := by rw [hw8]; exact heap_cell (heap_new2 w7 _ _) rfl
              obtain ⟨p, hpe⟩ : ∃ p, w7.heap.size = p := ⟨_, rfl⟩
              rw [hpe] at hs8 hp8 hq8 ⊢
              have HM8 : Hid (SpM F MB TB G (BB + 1) n (.slice FA f.regs.length ac) (.slice FB f.params.length bc) f.ret (.slice D n dcap) (.slice E f.rows.length ecap) (.slice (some ⟨gn, 0, none⟩) n n) (.slice (some ⟨gs, 0, none⟩) n n) (fun k => k = IB ∨ k = p ∨ k = p + 1) m2 T2 w8) := lhid (HM7.out.more h78 HD.out (fun k hk => by
                rcases hk with e | e | e
                · exact .inl e
                · exact .inr (by omega)
                · exact .inr (by omega)))
              have HT8 := lhid (HT7.out.below h78)
              have HL8 : Hid (SpL G TB H (BB + 1) w1 w8) := lhid (HL7.out.trans (SpL.of_below h78 HIB9.out.2.2))
              have HR8 : Hid (MrkD w8 (BB + 1) Ds) := lhid (HR7.out.of (SpL.of_below (G := G) (TB := TB) (H := H) h78 HIB9.out.2.2))
              have HIB8 := lhid (heap_keep HIB7.out h78)
              have HFB8 := lhid (heap_keep HFB7.out h78)
              have HB8 : Hid (Below w.heap.size w w8) := lhid (HB7.out.trans (h78.mono HB7.out.size))
              have HER : Hid (RdX (fun b => b < w.heap.size) 4 RwE w8 (.slice E f.rows.length ecap) f.rows) := lhid (HFU.out.lt'.e.below (keptX_rw _) HB8.out)
              have HSL := lhid (catchers_stops (P := fun b => b < w.heap.size) Fence.wide 7 trivial rfl (by decide) p (p + 1) f.rows (i : Int) E ecap w8 hp8 hq8 HER hrn (fun k hk => by have := HB7.out.size; omega))
              have HS8 : Hid (w8.heap.size = p + 2 ∧ w.heap.size ≤ p ∧ BB + 1 ≤ p ∧ IB < p ∧ BB + 1 ≤ IB) := lhid ⟨hs8, by have := HB7.out.size; omega, by have := HIB9.out; omega, by have := HIB9.out; omega, HIB9.out.1⟩
              clear hw8 h78 hs8 hp8 hq8 hpe HM7 HT7 HL7 HR7 HIB7 HFB7 HB7 HIB9 b4e b2e
              go_wp2_with fail
              refine (wpIn_wide (n := 8)).1 ?_
              refine' wpIn_rangeFunc_ownG (F := Fence.wide) (n := 8) rfl (by decide) (gf := 121) (lb := #[.pointer (some ⟨p, 0, none⟩), .pointer (some ⟨p + 1, 0, none⟩)]) rfl trivial (enters_of Try.func121 (by kernel_rfl) rfl) HSL.out
                (fun h k => h.trans k)
                (fun W l o o' hl ho hc _ => kpc_put (B := w8.heap.size) hl ho hc (by have := HS8.out; omega) (by have := HS8.out; omega) (fun k hk => by have := HS8.out; omega))
                (Below.refl _ _) (fun _ => rfl)
                (fun pre W => ∃ (m3 : Nat → Mk) (T3 : List Nat), Hid (SpM F MB TB G (BB + 1) n (.slice FA f.regs.length ac) (.slice FB f.params.length bc) f.ret (.slice D n dcap) (.slice E f.rows.length ecap) (.slice (some ⟨gn, 0, none⟩) n n) (.slice (some ⟨gs, 0, none⟩) n n) (fun k => k = IB ∨ k = p ∨ k = p + 1) m3 T3 W) ∧ Hid (SpK G TB (BB + 1) (fun k => k = IB ∨ k = p ∨ k = p + 1) w8 W) ∧ Hid (2 * zerS n m3 + T3.length ≤ 2 * zerS n m + T'.length) ∧ Hid (Sp2I (webN f) beg (fun _ => 0) i (cqL pre) m3 (fun j => if j = s then zt else t j) T3))
                (fun _ _ _ => False) ?hI (fun _ _ _ _ _ hs _ _ => hs) ?h0 _ ?assign ?body ?done (fun _ _ _ _ _ _ hx => hx.elim)
              case hI =>
                intro pre W W' row ⟨m3, T3, h1, h2, h3, h4⟩ hg hr
                exact ⟨m3, T3, lhid (h1.out.grown (b := w8.heap.size) HD.out (by have := HS8.out; omega) hg hr), lhid (h2.out.grown (b := 0) hg hr (by have := HS8.out; omega) (fun k hk => by have := HS8.out; rcases hk with e | e | e <;> omega)), h3, h4⟩
              case h0 => exact ⟨m2, T2, HM8, lhid (SpK.refl _ _ _ _ _), HZ, HS2⟩
              case assign =>
                intro l y W K hK
                dsimp only [cqE]
                gi_wp2
                exact hK
              case body =>
                rintro l pre y W ⟨m3, T3, HM, HK, HZ9, HS9⟩ hlen
                have HFBW : Hid (W.heap[BB]? = some (.cells #[.func (.func 99) #[] #[.pointer (some ⟨F, 0, none⟩), .pointer (some ⟨MB, 0, none⟩), .pointer (some ⟨TB, 0, none⟩)]] 131 (0, 0))) := lhid ((HK.out.low BB (by omega) (by have := HNUM.out; omega) (by have := HNUM.out; omega)).trans HFB8.out)
                have b0 := heap_cell (i := 0) HFBW.out rfl
                have b1 := heap_cell (i := 0) HM.out.mb rfl
                have b2 := heap_cell (i := 0) ((HK.out.prot IB (.inl rfl)).trans HIB8.out) rfl
                have b3 := HM.out.marks.at' HIN.out
                obtain ⟨xq, hxm⟩ : ∃ xq, m3 i = xq := ⟨_, rfl⟩
                rw [hxm] at b3
                have HXM := lhid hxm
                have HMd : Hid (SpM F MB TB G (BB + 1) n (.slice FA f.regs.length ac) (.slice FB f.params.length bc) f.ret (.slice D n dcap) (.slice E f.rows.length ecap) (.slice (some ⟨gn, 0, none⟩) n n) (.slice (some ⟨gs, 0, none⟩) n n) (fun k => k = IB ∨ k = p ∨ k = p + 1) m3 T3 W.drew) := lhid (HM.out.below (bel_drew (Below.refl _ _)))
                have HTL : Hid ((T3.length + 1) * 8 ≤ 140737488355328) := lhid (by have h1 := HZ9.out; have h2 := HZ3.out; omega)
                have hmx : Try.prog.follows .mixedOrders = true := by kernel_rfl
                have hly := y.2
                clear hxm hlen
                gi_wp2
                obtain ⟨w0, hw0⟩ : ∃ w0, w0 = w := ⟨_, rfl⟩
                have HW0 := lhid hw0
                clear hw0
                refine region_inv_in hmx (fun listed a w => ∃ l0 l1 l2 l3 l4 l5 : Bool, (listed = #[l0, l1, l2, l3, l4, l5, false] ∧ a = { tmps := #[.agg #[.slice FA f.regs.length ac, .slice FB f.params.length bc, .int .i64 f.ret, .slice D n dcap, .slice E f.rows.length ecap, .slice (some ⟨gn, 0, none⟩) n n, .slice (some ⟨gs, 0, none⟩) n n], .int .u64 (beg.toNat : Int), .func (.func 77) #[] #[], .pointer (some ⟨F, 0, none⟩), undef, undef, .slice none 0 0, .pointer (some ⟨MB, 0, none⟩), .slice (some ⟨H, 0, none⟩) (n + 1) (n + 1), .pointer (some ⟨TB, 0, none⟩), .pointer (some ⟨BB, 0, none⟩), .pointer (some ⟨IB, 0, none⟩), u12, u13, .int .i64 (s : Int), .int .i64 y.1, u16, u17, u18, u19, u20, u21, u22, u23, u24, u25, u26, u27, u28, u29, u30, u31, u32, u33, u34, u35, u36, u37, u38, u39, u40, u41, u42, u43, u44, u45, u46, u47, u48, u49, u50, u51, u52, u53, u54, u55, u56, u57, u58, u59, u60, u61, u62, u63, u64, u65, u66, u67, u68, u69, u70, u71, u72, u73, u74, u75, u76, u77, u78, u79, u80, u81, u82, u83, u84, u85, u86, u87, u88, u89, .bool true, .slice (some ⟨H, 0, none⟩) (n + 1) (n + 1), .int .i64 (s : Int), .pointer (some ⟨H, s, none⟩), .int .u64 (yt.toNat : Int), .slice (some ⟨G, 0, none⟩) n n, .int .i64 (i : Int), .pointer (some ⟨G, i, none⟩), .int .u64 (xm.toNat : Int), .int .u64 (zt.toNat : Int), .pointer (some ⟨H, s, none⟩), .pointer (some ⟨F, 0, none⟩), .pointer (some ⟨F, 4, none⟩), .slice E f.rows.length ecap, .int .i64 (i : Int), .func (.func 121) #[] #[.pointer (some ⟨p, 0, none⟩), .pointer (some ⟨p + 1, 0, none⟩)], .int .i64 y.1, cond l0 (.func (.func 99) #[] #[.pointer (some ⟨F, 0, none⟩), .pointer (some ⟨MB, 0, none⟩), .pointer (some ⟨TB, 0, none⟩)]) u107, cond l1 (.int .i64 y.1) u108, cond l2 (.slice (some ⟨G, 0, none⟩) n n) u109, cond l3 (.int .i64 (i : Int)) u110, cond l4 (.pointer (some ⟨G, i, none⟩)) u111, cond l5 (.int .u64 (xq.toNat : Int)) u112, u113, u114], defers := [] } ∧ w = W.drew ∧ ((l4 = true → l2 = true ∧ l3 = true) ∧ (l5 = true → l4 = true))) ∨ (listed = #[true, true, true, true, true, true, true] ∧ Hid (KeepsFrom w8.heap.size W w) ∧ Hid (KpC (fun b => b < w0.heap.size) p (p + 1) W w) ∧ ∃ (m4 : Nat → Mk) (T4 : List Nat), Hid (SpM F MB TB G (BB + 1) n (.slice FA f.regs.length ac) (.slice FB f.params.length bc) f.ret (.slice D n dcap) (.slice E f.rows.length ecap) (.slice (some ⟨gn, 0, none⟩) n n) (.slice (some ⟨gs, 0, none⟩) n n) (fun k => k = IB ∨ k = p ∨ k = p + 1) m4 T4 w) ∧ Hid (SpK G TB (BB + 1) (fun k => k = IB ∨ k = p ∨ k = p + 1) w8 w) ∧ Hid (2 * zerS n m4 + T4.length ≤ 2 * zerS n m + T'.length) ∧ Hid (Sp2I (webN f) beg (fun _ => 0) i (cqL (pre ++ [y])) m4 (fun j => if j = s then zt else t j) T4))) ?h0 ?hstep ?hend
                case h0 => exact ⟨false, false, false, false, false, false, .inl ⟨rfl, rfl, rfl, by decide⟩⟩
                case hend =>
                  rintro listed a w hs hr ⟨l0, l1, l2, l3, l4, l5, ⟨rfl, rfl, rfl, hcl⟩ | ⟨rfl, h1, h2, h3⟩⟩
                  · have nr : ∀ j, j ∉ Region.ready .any _ #[l0, l1, l2, l3, l4, l5, false] := fun j hj => by rw [hr] at hj; cases hj
                    have e0 : l0 = true := by cases l0 with
                      | true => rfl
                      | false => exact absurd (mem_ready.2 ⟨rfl, _, rfl, by simp⟩) (nr 0)
                    have e1 : l1 = true := by cases l1 with
                      | true => rfl
                      | false => exact absurd (mem_ready.2 ⟨rfl, _, rfl, by simp⟩) (nr 1)
                    have e2 : l2 = true := by cases l2 with
                      | true => rfl
                      | false => exact absurd (mem_ready.2 ⟨rfl, _, rfl, by simp⟩) (nr 2)
                    have e3 : l3 = true := by cases l3 with
                      | true => rfl
                      | false => exact absurd (mem_ready.2 ⟨rfl, _, rfl, by simp⟩) (nr 3)
                    subst e0 e1 e2 e3
                    have e4 : l4 = true := by cases l4 with
                      | true => rfl
                      | false => exact absurd (mem_ready.2 ⟨rfl, _, rfl, by simp⟩) (nr 4)
                    subst e4
                    have e5 : l5 = true := by cases l5 with
                      | true => rfl
                      | false => exact absurd (mem_ready.2 ⟨rfl, _, rfl, by simp⟩) (nr 5)
                    subst e5
                    exact absurd (mem_ready.2 ⟨rfl, _, rfl, by simp⟩) (nr 6)
                  · skip
                    gi_wp2
                    exact ⟨h1.out, by have h9 := h2.out; rw [HW0.out] at h9; exact h9, h3⟩
                case hstep =>
                  rintro listed a w j hs ⟨l0, l1, l2, l3, l4, l5, ⟨rfl, rfl, rfl, hcl⟩ | ⟨rfl, hpost⟩⟩ hi
                  · obtain ⟨h1, o, ho, h3⟩ := mem_ready.1 hi
                    rcases j with _ | _ | _ | _ | _ | _ | _ | j
                    all_goals try (have ho := Option.some.inj ho; subst ho)
                    · have e0 : l0 = false := h1
                      subst e0
                      refine wpOpIn_step rfl (fun K hK => ?_)
                      go_simp
                      refine hK _ _ ?_
                      exact ⟨true, l1, l2, l3, l4, l5, .inl ⟨rfl, rfl, rfl, hcl⟩⟩
                    · have e1 : l1 = false := h1
                      subst e1
                      refine wpOpIn_step rfl (fun K hK => ?_)
                      go_simp
                      refine hK _ _ ?_
                      exact ⟨l0, true, l2, l3, l4, l5, .inl ⟨rfl, rfl, rfl, hcl⟩⟩
                    · have e2 : l2 = false := h1
                      subst e2
                      refine wpOpIn_step rfl (fun K hK => ?_)
                      go_simp
                      refine hK _ _ ?_
                      exact ⟨l0, l1, true, l3, l4, l5, .inl ⟨rfl, rfl, rfl, ⟨fun h => ⟨rfl, (hcl.1 h).2⟩, hcl.2⟩⟩⟩
                    · have e3 : l3 = false := h1
                      subst e3
                      refine wpOpIn_step rfl (fun K hK => ?_)
                      go_simp
                      refine hK _ _ ?_
                      exact ⟨l0, l1, l2, true, l4, l5, .inl ⟨rfl, rfl, rfl, ⟨fun h => ⟨(hcl.1 h).1, rfl⟩, hcl.2⟩⟩⟩
                    · have e4 : l4 = false := h1
                      subst e4
                      have e2 : l2 = true := h3 ⟨2, .data⟩ (by simp) rfl
                      subst e2
                      have e3 : l3 = true := h3 ⟨3, .data⟩ (by simp) rfl
                      subst e3
                      refine wpOpIn_step rfl (fun K hK => ?_)
                      go_simp
                      refine hK _ _ ?_
                      exact ⟨l0, l1, true, true, true, l5, .inl ⟨rfl, rfl, rfl, ⟨fun _ => ⟨rfl, rfl⟩, fun _ => rfl⟩⟩⟩
                    · have e5 : l5 = false := h1
                      subst e5
                      have e4 : l4 = true := h3 ⟨4, .data⟩ (by simp) rfl
                      subst e4
                      have e2 := (hcl.1 rfl).1
                      have e3 := (hcl.1 rfl).2
                      subst e2 e3
                      refine wpOpIn_step rfl (fun K hK => ?_)
                      go_simp
                      refine hK _ _ ?_
                      exact ⟨l0, l1, true, true, true, true, .inl ⟨rfl, rfl, rfl, ⟨fun _ => ⟨rfl, rfl⟩, fun _ => rfl⟩⟩⟩
                    · have e0 : l0 = true := h3 ⟨0, .data⟩ (by simp) rfl
                      have e1 : l1 = true := h3 ⟨1, .data⟩ (by simp) rfl
                      have e5 : l5 = true := h3 ⟨5, .data⟩ (by simp) rfl
                      have e4 := hcl.2 e5
                      have e2 := (hcl.1 e4).1
                      have e3 := (hcl.1 e4).2
                      subst e0 e1 e2 e3 e4 e5
                      refine wpOpIn_step rfl (fun K hK => ?_)
                      go_simp
                      refine ⟨trivial, ?_⟩
                      refine (CallsIn.inRound l (callsIn_wide.2 (bring_c F MB TB G (BB + 1) n _ _ f.ret D dcap _ _ _ (fun k => k = IB ∨ k = p ∨ k = p + 1) m3 T3 y.1 xq _ HD HMd HTL))).mono ?_
                      rintro e w5 ⟨rfl, m4, T4, hbr, hm5, hk5⟩
                      have HK5 : Hid (SpK G TB (BB + 1) (fun k => k = IB ∨ k = p ∨ k = p + 1) W w5) := lhid ⟨hk5.os, hk5.tape, hk5.output, hk5.size, hk5.low, hk5.prot, hk5.obj, hk5.rows⟩
                      dsimp only
                      refine hK _ _ ?_
                      refine ⟨true, true, true, true, true, true, .inr ⟨rfl, lhid ⟨HK5.out.size, fun k o _ h1 h2 => HK5.out.obj k o h1 h2⟩, lhid (fun k hk => ?_), m4, T4, lhid hm5, lhid (HK.out.trans HK5.out), lhid (Nat.le_trans hbr.less HZ9.out), lhid (by rw [cqL_snoc]; exact HS9.out.step (by rw [HXM.out, HWn.out]; exact hbr))⟩⟩
                      rw [HW0.out] at hk
                      rcases hk with e | e | e | ⟨cs, fz, e⟩
                      · exact HK5.out.prot k (.inr (.inl e))
                      · exact HK5.out.prot k (.inr (.inr e))
                      · exact HK5.out.low k (by have := HNUM.out; omega) (by have := HNUM.out; omega) (by have := HNUM.out; omega)
                      · exact HK5.out.rows k cs fz e
                    · simp at ho
                  · obtain ⟨h1, _⟩ := mem_ready.1 hi
                    rcases j with _ | _ | _ | _ | _ | _ | _ | j
                    all_goals simp at h1
              case done =>
                rintro DD xs W hDs hxs ⟨m3, T3, HM, HK, HZ9, HS9⟩ hKD
                have HSP : Hid (SpI (webN f) beg (fun _ => 0) m3 (fun j => if j = s then zt else t j) T3) := lhid (by
                  have h1 := HS9.out
                  rw [hxs] at h1
                  exact (h1 (fun z hz => hz)).done)
                have HLf : Hid (SpL G TB H (BB + 1) w1 W) := lhid (HL8.out.trans HK.out.l)
                have HRf : Hid (MrkD W (BB + 1) (DD :: Ds)) := lhid ((HR8.out.of (G := G) (TB := TB) (H := H) HK.out.l).cons (fun d hd => by have := heap_lt (HR8.out.at' d hd).2; omega) (by have := HS8.out; omega) hKD)
                have HHf : Hid (Msk W H (n + 1) (fun j => if j = s then zt else t j)) := lhid (HT8.out.of (HK.out.low H (by have := HNUM.out; omega) (by have := HNUM.out; omega) (by have := HNUM.out; omega)))
                have HMf := lhid HM.out.free
                have HZf : Hid (2 * zerS n m3 + T3.length ≤ 128 * n) := lhid (by have h1 := HZ9.out; have h2 := HZ3.out; omega)
                clear hDs hxs HM HK HS9 hKD HM8 HT8 HL8 HR8 HIB8 HFB8
                go_wp2_with fail
                refine Handed.intro (2 * zerS n m3 + T3.length) ?measure ?_
                rotate_left
                go_step
                (repeat apply Exists.intro)
                exact ⟨⟨rfl, HZf, HSP, HMf, HHf, HLf, HRf⟩, rfl⟩
                case measure => (have h1 := HZ9.out; have h2 := HGK2.out; omega)
end Go.Proofs.Ytbkeneadoccodaa
