/- Texts of this claim, joined: CFlwRCgt, CFlwRAll, CFlwRRch, CLivBring, CLivMem, CFlwDfs, CFlwRSet, CLivFrom, CLivLL. -/
import Derived.Test.YtoommeiiadobfaaM10
import Derived.Test.YtoommeiiadobfaaM16
import Derived.Deep.Cut
import Derived.Deep.CutRange
import Derived.Deep.CutBlock
import Derived.Test.YtoommeiiadobfaaJCLivSet
import Derived.Test.YtoommeiiadobfaaM12
import Derived.Test.YtoommeiiadobfaaM14
import Derived.Laws.OwnMore
/- Which places may catch what a place throws: the document's Caught. -/
namespace Go.Proofs.Ytoommeiiadobfaa
open Go.RowKit Go
set_option linter.unusedVariables false
set_option linter.unusedSimpArgs false
theorem rthrows_r (c : Int) (z : Bool) (w : World) (h : Hid (throwsB c = z)) : Calls Try.prog 18 #[.int .i64 c] w fun e w' => e = .returned (.bool z) ∧ Below w.heap.size w w' := by
 have := rthrows_any c w
 rwa [h.out] at this
set_option maxHeartbeats 16000000 in
set_option maxRecDepth 100000 in
theorem rcaught_any {P : Nat → Prop} (f : FuI) (fa fb fd fe : Value) (i : Int) (w : World) (h : Hid (FuV P w f fa fb fd fe)) (hrl : Hid (f.rows.length * 8 ≤ 140737488355328)) :
  Calls Try.prog 40 #[fuL fa fb f.ret fd fe, .int .i64 i] w fun e w' => ∃ v, e = .returned v ∧ OwN w' w.heap.size v (caughtL f i) ∧ Below w.heap.size w w' := by
 obtain ⟨D, dcap, hD⟩ := h.out.d.shape
 subst hD
 obtain ⟨E, ecap, hE⟩ := h.out.e.shape
 subst hE
 have hdl := h.out.d.len
 have hel := h.out.e.len
 obtain ⟨n, hn⟩ : ∃ n, f.code.length = n := ⟨_, rfl⟩
 have HN := lhid hn
 have hd := h.out.d
 rw [hn] at hdl hd ⊢
 clear hn
 by_cases h0 : i < 0
 ·have HR : Hid (caughtL f i = []) := lhid (by unfold caughtL; rw [atC_none (.inl h0)])
  rw [HR.out]
  go_enter Try.func40, Try.ntmps40
  go_wp2_with fail
  go_ret
  exact ⟨_, rfl, World.ownsRow_nil _ _ _ _, (Below.refl _ _).alloc (Nat.le_refl _) _⟩
 obtain ⟨k0, rfl⟩ : ∃ k : Nat, i = k := ⟨i.toNat, by omega⟩
 by_cases h1 : (k0 : Int) < n
 ·
  obtain ⟨x, hx⟩ : ∃ x, f.code[k0]? = some x := ⟨_, List.getElem?_eq_getElem (by have := HN.out; omega)⟩
  obtain ⟨g, o, v, hD, _, hv, c0, c1, c2, c3, c4, c5, c6, c7, c8⟩ := in_cells hd hx
  subst hD
  have hgw : g < w.heap.size := cell_lt c0
  have h2 : ¬ (n : Int) ≤ k0 := by omega
  obtain ⟨zt, hzt⟩ : ∃ z, throwsB x.op = z := ⟨_, rfl⟩
  have HT := lhid hzt
  have HCL : Hid (caughtL f (k0 : Int) = if zt then uniqL (catL f.rows k0) else []) := lhid (by unfold caughtL; rw [atC_some hx]; dsimp only; rw [hzt])
  clear hx hv hd hzt
  cases zt with
  | false =>
   have HR : Hid (caughtL f (k0 : Int) = []) := HCL
   rw [HR.out]
   go_enter Try.func40, Try.ntmps40
   go_wp2_with fail
   with_reducible refine (rthrows_r x.op false _ HT).mono ?_
   rintro e w1 ⟨rfl, hb⟩
   have HB1 := lhid (((Below.refl w.heap.size w).alloc (Nat.le_refl _) _).trans (hb.mono (by simp)))
   clear hb
   go_wp2_with fail
   go_ret
   exact ⟨_, rfl, World.ownsRow_nil _ _ _ _, HB1.out⟩
  | true =>
   go_enter Try.func40, Try.ntmps40
   go_wp2_with fail
   with_reducible refine (rthrows_r x.op true _ HT).mono ?_
   rintro e w1 ⟨rfl, hb⟩
   have HB1 := lhid (((Below.refl w.heap.size w).alloc (Nat.le_refl _) _).trans (hb.mono (by simp)))
   have HF1 : Hid (FBox w1 w.heap.size fa fb f.ret (.slice (some ⟨g, o, none⟩) n dcap) (.slice E f.rows.length ecap)) := lhid (heap_keep (heap_alloc_new w _) hb)
   clear hb c0 c1 c2 c3 c4 c5 c6 c7 c8
   obtain ⟨i0, hi0, hz0, hz1, hz2⟩ := info_parts info_nuP
   go_wp2_with fail
   go_loopw [5, 6] (fun v j wr => ∃ (L : List Int) (A : Option Addr) (q k : Nat), v = .slice A L.length q ∧ j = .int .i64 k ∧ k ≤ f.rows.length ∧ Hid ((catL (f.rows.drop k) (k0 : Int)).foldl addU L = caughtL f (k0 : Int)) ∧ Hid (L.length ≤ k) ∧ Hid (OwN wr (w.heap.size + 1) (.slice A L.length q) L) ∧ Hid (Below w.heap.size w wr) ∧ Hid (FBox wr w.heap.size fa fb f.ret (.slice (some ⟨g, o, none⟩) n dcap) (.slice E f.rows.length ecap))) (fun _ j _ => f.rows.length - (intOf j).toNat)
   case atStart => exact ⟨[], none, 0, 0, rfl, rfl, Nat.zero_le _, lhid (by rw [HCL.out]; rfl), lhid (Nat.le_refl _), lhid (World.ownsRow_nil _ _ _ _), HB1, HF1⟩
   case round =>
    clear HB1 HF1
    obtain ⟨L, A, q, k, rfl, rfl, hk, HFO, HLE, HO, HB, HF⟩ := hrel
    obtain ⟨p0, p1, p2, p3, p4⟩ := HF.out.cells
    by_cases hlt : k < f.rows.length
    ·
     obtain ⟨r, hx⟩ : ∃ r, f.rows[k]? = some r := ⟨_, List.getElem?_eq_getElem hlt⟩
     obtain ⟨rg, ro, hE, c0, c1, c2, c3⟩ := rw_cells h.out.e hx
     subst hE
     have kc : ∀ {p : Addr} {u : Value}, w.cell? p = some u → wr.cell? p = some u := fun {p u} hq => (HB.out.cell (p := p) (cell_lt hq)).trans hq
     replace c0 := kc c0
     replace c1 := kc c1
     replace c2 := kc c2
     replace c3 := kc c3
     have HD : Hid (f.rows.drop k = r :: f.rows.drop (k + 1)) := lhid (by
      rw [List.drop_eq_getElem_cons hlt]
      have := List.getElem?_eq_getElem hlt
      rw [hx] at this
      rw [Option.some.inj this])
     have hfl : w.heap.size < wr.heap.size := heap_lt HF.out
     have k3 : (k : Int) < f.rows.length := by omega
     have hwk : wrap64 ((k : Int) + 1) = (k : Int) + 1 := IntWalk.wrap64_in _ (by omega)
     have HF2 : Hid (FBox (wr.alloc (.cells #[.int .i64 r.fr, .int .i64 r.too, .int .i64 r.at_, .string (tx r.cls)] 56)) w.heap.size fa fb f.ret (.slice (some ⟨g, o, none⟩) n dcap) (.slice (some ⟨rg, ro, none⟩) f.rows.length ecap)) := lhid (heap_keep HF.out ((Below.refl _ _).alloc (Nat.le_refl _) _))
     have HB2 := lhid (HB.out.alloc HB.out.size (.cells #[.int .i64 r.fr, .int .i64 r.too, .int .i64 r.at_, .string (tx r.cls)] 56))
     have HO2 : Hid (OwN (wr.alloc (.cells #[.int .i64 r.fr, .int .i64 r.too, .int .i64 r.at_, .string (tx r.cls)] 56)) (w.heap.size + 1) (.slice A L.length q) L) := lhid (HO.out.alloc _)
     have HRB : Hid ((wr.alloc (.cells #[.int .i64 r.fr, .int .i64 r.too, .int .i64 r.at_, .string (tx r.cls)] 56)).heap[wr.heap.size]? = some (.cells #[.int .i64 r.fr, .int .i64 r.too, .int .i64 r.at_, .string (tx r.cls)] 56 (0, 0))) := lhid (heap_alloc_new wr _)
     have HOL : Hid (∀ b, (Value.slice A L.length q).ownBlock = some b → b < wr.heap.size) := lhid fun b hb => (HO.out.lt b hb).2
     clear hx kc
     by_cases a1 : r.fr ≤ k0
     ·by_cases a2 : (k0 : Int) < r.too
      ·have HCA : Hid (catL (f.rows.drop k) k0 = r.at_ :: (if r.cls = [] then [] else catL (f.rows.drop (k + 1)) k0)) := lhid (by rw [HD.out]; exact catL_yes (by unfold aboutB; rw [decide_eq_true a1, decide_eq_true a2]; rfl))
       by_cases hin : r.at_ ∈ L
       ·have HT1 : Hid (decide (r.at_ ∈ L) = true) := lhid (decide_eq_true hin)
        have HFO : Hid ((if r.cls = [] then ([] : List Int) else catL (f.rows.drop (k + 1)) k0).foldl addU L = caughtL f (k0 : Int)) := lhid (by have := HFO.out; rw [HCA.out, List.foldl_cons] at this; unfold addU at this; rw [if_pos hin] at this; exact this)
        have HFO : Hid ((if r.cls = [] then L else (catL (f.rows.drop (k + 1)) k0).foldl addU L) = caughtL f (k0 : Int)) := lhid (by
         have := HFO.out
         by_cases h9 : r.cls = []
         ·rw [if_pos h9] at this ⊢; exact this
         ·rw [if_neg h9] at this ⊢; exact this)
        clear hin
        go_wp2_with fail
        with_reducible refine (fin_r r.at_ (.slice A L.length q) L true _ (lhid (OwN.rd HO2.out (by have := HLE.out; omega))) HT1).mono ?_
        rintro e w9 ⟨rfl, rfl⟩
        by_cases hc : r.cls = []
        ·have HC : Hid (L = caughtL f (k0 : Int)) := lhid (by have := HFO.out; rw [if_pos hc] at this; exact this)
         have hc1 : ((tx r.cls).toList == ([] : Bs)) = true := by rw [tx_toL, hc]; rfl
         have hc2 : (tx r.cls).toList.isEmpty = true := by rw [tx_toL, hc]; rfl
         have hc3 : (tx r.cls).toList = [] := by rw [tx_toL]; exact hc
         clear hc
         go_wp2_with fail
         go_ret
         refine ⟨_, rfl, ?_, HB2.out⟩
         rw [← HC.out]
         exact own_base HO2.out (by omega)
        ·have HC : Hid ((catL (f.rows.drop (k + 1)) (k0 : Int)).foldl addU (L) = caughtL f (k0 : Int)) := lhid (by have := HFO.out; rw [if_neg hc] at this; exact this)
         have hc1 : ((tx r.cls).toList == ([] : Bs)) = false := by rw [tx_toL, beq_eq_false_iff_ne]; exact hc
         have hc2 : (tx r.cls).toList.isEmpty = false := by rw [tx_toL]; cases h9 : r.cls with
          | nil => exact absurd h9 hc
          | cons _ _ => rfl
         have hc3 : ¬ (tx r.cls).toList = [] := by rw [tx_toL]; exact hc
         clear hc
         go_wp2_with fail
         go_roundw
         case rel => exact ⟨L, A, q, k + 1, by rfl, by go_num, by omega, HC, lhid (by have := HLE.out; omega), HO2, HB2, HF2⟩
         case measure => simp [intOf]; omega
       ·have HT1 : Hid (decide (r.at_ ∈ L) = false) := lhid (decide_eq_false hin)
        have HFO : Hid ((if r.cls = [] then L ++ [r.at_] else (catL (f.rows.drop (k + 1)) k0).foldl addU (L ++ [r.at_])) = caughtL f (k0 : Int)) := lhid (by
         have := HFO.out
         rw [HCA.out, List.foldl_cons] at this
         unfold addU at this
         rw [if_neg hin] at this
         by_cases h9 : r.cls = []
         ·rw [if_pos h9] at this ⊢; exact this
         ·rw [if_neg h9] at this ⊢; exact this)
        have hle := HLE.out
        clear hin
        go_wp2_with fail
        with_reducible refine (fin_r r.at_ (.slice A L.length q) L false _ (lhid (OwN.rd HO2.out (by have := HLE.out; omega))) HT1).mono ?_
        rintro e w9 ⟨rfl, rfl⟩
        go_wp2_with (at_builtin; refine wpList_append_own _ rfl (.tmp 54) (.tmp 57) 22 rfl (w.heap.size + 1) 3 i0 (.int .i64 0) 1 8 Try.underlying22 hi0 hz0 hz1 hz2 rfl (by decide) (.slice A L.length q) L.length (L.map vI) rfl (HO2.out.alloc _) ⟨wr.heap.size + 1, 0, none⟩ 1 1 [vI r.at_] rfl rfl ?c1 ?c2 ?c3 ?c4 ?c5 ?_)
        case c1 =>
         have h9 := new_cells (wr.alloc (.cells #[.int .i64 r.fr, .int .i64 r.too, .int .i64 r.at_, .string (tx r.cls)] 56)) [vI r.at_] 3
         rw [show (wr.alloc (.cells #[.int .i64 r.fr, .int .i64 r.too, .int .i64 r.at_, .string (tx r.cls)] 56)).heap.size = wr.heap.size + 1 by simp] at h9
         exact h9
        case c2 => (intro u hu; simp at hu; subst hu; rfl)
        case c3 => (unfold maxLen; omega)
        case c4 => (have := hrl.out; omega)
        case c5 => (simp; omega)
        intro v' w' hown hgrow hnil
        obtain ⟨A', q', rfl⟩ := own_shape hown
        have HO3 : Hid (OwN w' (w.heap.size + 1) (.slice A' (L ++ [r.at_]).length q') (L ++ [r.at_])) := lhid (by simpa [OwN] using hown)
        have HF3 : Hid (FBox w' w.heap.size fa fb f.ret (.slice (some ⟨g, o, none⟩) n dcap) (.slice (some ⟨rg, ro, none⟩) f.rows.length ecap)) := lhid ((hgrow.block w.heap.size (by simp; omega) (fun e => by have := own_lt HO.out _ e.symm; omega)).trans ((Below.heap_alloc _ _ _ (by simp; omega)).trans HF2.out))
        have r3 := heap_cell (i := 3) ((hgrow.block wr.heap.size (by simp; omega) (fun e => by have := HOL.out _ e.symm; omega)).trans ((Below.heap_alloc _ _ _ (by simp)).trans HRB.out)) rfl
        have HB3 := lhid (Below.grown (HB2.out.alloc HB2.out.size _) hgrow (by simp; omega) (fun r e => by have := own_lt HO.out r e; omega))
        obtain ⟨U, hU⟩ : ∃ U, L ++ [r.at_] = U := ⟨_, rfl⟩
        have hUl : L.length + 1 = U.length := by rw [← hU]; simp
        rw [hU] at HO3 HFO
        have HO4 : Hid (OwN w' (w.heap.size + 1) (.slice A' (L.length + 1) q') U) := lhid (by rw [hUl]; exact HO3.out)
        clear hown hgrow hnil hU hle c0 c1 c2 c3 p0 p1 p2 p3 p4
        by_cases hc : r.cls = []
        ·have HC : Hid (U = caughtL f (k0 : Int)) := lhid (by have := HFO.out; rw [if_pos hc] at this; exact this)
         have hc1 : ((tx r.cls).toList == ([] : Bs)) = true := by rw [tx_toL, hc]; rfl
         have hc2 : (tx r.cls).toList.isEmpty = true := by rw [tx_toL, hc]; rfl
         have hc3 : (tx r.cls).toList = [] := by rw [tx_toL]; exact hc
         clear hc
         go_wp2_with fail
         go_ret
         refine ⟨_, rfl, ?_, HB3.out⟩
         rw [← HC.out]
         exact own_base HO4.out (by omega)
        ·have HC : Hid ((catL (f.rows.drop (k + 1)) (k0 : Int)).foldl addU (U) = caughtL f (k0 : Int)) := lhid (by have := HFO.out; rw [if_neg hc] at this; exact this)
         have hc1 : ((tx r.cls).toList == ([] : Bs)) = false := by rw [tx_toL, beq_eq_false_iff_ne]; exact hc
         have hc2 : (tx r.cls).toList.isEmpty = false := by rw [tx_toL]; cases h9 : r.cls with
          | nil => exact absurd h9 hc
          | cons _ _ => rfl
         have hc3 : ¬ (tx r.cls).toList = [] := by rw [tx_toL]; exact hc
         clear hc
         go_wp2_with fail
         go_roundw
         case rel => exact ⟨U, A', q', k + 1, by rw [hUl], by go_num, by omega, HC, lhid (by have := HLE.out; omega), HO3, HB3, HF3⟩
         case measure => simp [intOf]; omega
      ·have HFO2 : Hid ((catL (f.rows.drop (k + 1)) (k0 : Int)).foldl addU L = caughtL f (k0 : Int)) := lhid (by have := HFO.out; rw [HD.out, catL_no (by unfold aboutB; rw [decide_eq_true a1, decide_eq_false a2]; rfl)] at this; exact this)
       go_wp2_with fail
       go_roundw
       case rel => exact ⟨L, A, q, k + 1, rfl, by go_num, by omega, HFO2, lhid (by have := HLE.out; omega), HO2, HB2, HF2⟩
       case measure => simp [intOf]; omega
     ·have HFO2 : Hid ((catL (f.rows.drop (k + 1)) (k0 : Int)).foldl addU L = caughtL f (k0 : Int)) := lhid (by have := HFO.out; rw [HD.out, catL_no (by unfold aboutB; rw [decide_eq_false a1]; rfl)] at this; exact this)
      go_wp2_with fail
      go_roundw
      case rel => exact ⟨L, A, q, k + 1, rfl, by go_num, by omega, HFO2, lhid (by have := HLE.out; omega), HO2, HB2, HF2⟩
      case measure => simp [intOf]; omega
    ·have k3 : ¬ (k : Int) < f.rows.length := by omega
     have HR : Hid (L = caughtL f (k0 : Int)) := lhid (by have := HFO.out; rw [List.drop_of_length_le (by omega)] at this; exact this)
     go_wp2_with fail
     go_ret
     refine ⟨_, rfl, ?_, HB.out⟩
     rw [← HR.out]
     exact own_base HO.out (by omega)
 ·have h2 : (n : Int) ≤ k0 := by omega
  have HR : Hid (caughtL f (k0 : Int) = []) := lhid (by unfold caughtL; rw [atC_none (.inr (by rw [HN.out]; exact h2))])
  rw [HR.out]
  go_enter Try.func40, Try.ntmps40
  go_wp2_with fail
  go_ret
  exact ⟨_, rfl, World.ownsRow_nil _ _ _ _, (Below.refl _ _).alloc (Nat.le_refl _) _⟩
end Go.Proofs.Ytoommeiiadobfaa
/- All that follow a place: the document's All. -/
namespace Go.Proofs.Ytoommeiiadobfaa
open Go.RowKit Go
set_option linter.unusedVariables false
set_option linter.unusedSimpArgs false
def nxA (f : FuI) (i : Int) : List Int := nextL f i ++ caughtL f i
end Go.Proofs.Ytoommeiiadobfaa
/- What can be reached from the beginning: the document's Reach. -/
namespace Go.Proofs.Ytoommeiiadobfaa
open Go.RowKit Go
set_option linter.unusedVariables false
set_option linter.unusedSimpArgs false
def updB (S : Nat → Bool) (p : Nat) : Nat → Bool := fun j => if j = p then true else S j
def cntF (n : Nat) (S : Nat → Bool) : Nat := (List.range n).countP fun i => !S i
theorem cntF_upd {n p : Nat} {S : Nat → Bool} (hp : p < n) (h : S p = false) : cntF n (updB S p) + 1 ≤ cntF n S := by
 refine countP_lt (fun b _ hb => ?_) p (List.mem_range.2 hp) (by simp [updB]) (by simp [h])
 unfold updB at hb
 split at hb
 ·cases hb
 ·exact hb
theorem BooB.upd {w : World} {g n p : Nat} {S : Nat → Bool} (h : BooB w g n S n) : BooB (w.setCell ⟨g, p, none⟩ (.bool true)) g n (updB S p) n := by
 obtain ⟨c, h1, h2, h3⟩ := h
 refine ⟨_, heap_set h1 _, by simpa using h2, fun j hj => ?_⟩
 by_cases e : p = j
 ·subst e
  exact ⟨true, by rw [Array.getElem?_setIfInBounds, if_pos rfl, if_pos (by omega)], fun _ => by simp [updB]⟩
 ·obtain ⟨y, h4, h5⟩ := h3 j hj
  exact ⟨y, by rw [Array.getElem?_setIfInBounds, if_neg e]; exact h4, fun h => by rw [h5 h, updB, if_neg (fun e2 => e e2.symm)]⟩
theorem BooB.at' {w : World} {g n k i : Nat} {F : Nat → Bool} (h : BooB w g n F k) (hi : i < n) (hk : i < k) : w.cell? ⟨g, i, none⟩ = some (.bool (F i)) := by
 obtain ⟨c, h1, h2, h3⟩ := h
 obtain ⟨z, h4, h5⟩ := h3 i hi
 rw [← h5 hk]
 exact heap_cell h1 h4
theorem mem_uniq {xs : List Int} {s : Int} (h : s ∈ xs) : s ∈ uniqL xs := by
 have key : ∀ (xs l : List Int), (s ∈ l ∨ s ∈ xs) → s ∈ xs.foldl addU l := by
  intro xs
  induction xs with
  | nil =>
   rintro l (h | h)
   ·exact h
   ·cases h
  | cons x r ih =>
   rintro l h
   refine ih _ ?_
   unfold addU
   rcases h with h | h
   ·left; split
    ·exact h
    ·exact List.mem_append_left _ h
   ·rcases List.mem_cons.1 h with rfl | h
    ·left; split
     ·assumption
     ·simp
    ·exact .inr h
 exact key xs [] (.inr h)
theorem nxA_mem {f : FuI} {i : Nat} {s : Int} (hi : i < f.code.length) : s ∈ nxA f i ↔ s ∈ (webN f).nx i ∨ ((webN f).th i = true ∧ s ∈ (webN f).ct i) := by
 obtain ⟨x, hx⟩ : ∃ x, f.code[i]? = some x := ⟨_, List.getElem?_eq_getElem hi⟩
 have hth : (webN f).th i = throwsB x.op := by show (match f.code[i]? with | some x => throwsB x.op | none => false) = _; rw [hx]
 have hct : (webN f).ct i = catL f.rows i := rfl
 have hnx : (webN f).nx i = nextL f i := rfl
 have hcg : caughtL f i = if throwsB x.op then uniqL (catL f.rows i) else [] := by unfold caughtL; rw [atC_some hx]
 unfold nxA
 rw [List.mem_append, hth, hct, hnx, hcg]
 cases throwsB x.op with
 | true => simp only [if_true, true_and]; exact ⟨fun h => h.imp id uniq_mem, fun h => h.imp id mem_uniq⟩
 | false => simp
structure RchI (f : FuI) (S : Nat → Bool) : Prop where
 sound : ∀ i, i < f.code.length → S i = true → reachP f i
 first : 0 < f.code.length → S 0 = true
theorem RchI.upd {f : FuI} {S : Nat → Bool} (h : RchI f S) {i p : Nat} (hi : i < f.code.length) (hS : S i = true) (hp : (p : Int) ∈ nxA f i) (hpn : p < f.code.length) : RchI f (updB S p) where
 sound j hj hs := by
  unfold updB at hs
  split at hs
  ·rename_i e
   subst e
   rcases (nxA_mem hi).1 hp with h1 | ⟨h1, h2⟩
   ·exact .next (h.sound i hi hS) hi h1 hpn (by simp)
   ·exact .caught (h.sound i hi hS) hi h1 h2 hpn
  ·exact h.sound j hj hs
 first h0 := by
  unfold updB
  split
  ·rfl
  ·exact h.first h0
def ClsS (f : FuI) (S : Nat → Bool) (k : Nat) : Prop := ∀ i, i < k → S i = true → ∀ j : Nat, (j : Int) ∈ nxA f i → j < f.code.length → S j = true
theorem RchI.all {f : FuI} {S : Nat → Bool} (h : RchI f S) (hc : ClsS f S f.code.length) (i : Nat) (hi : i < f.code.length) : S i = true ↔ reachP f i := by
 refine ⟨h.sound i hi, fun hr => ?_⟩
 unfold reachP at hr
 clear hi
 induction hr with
 | first h0 _ => exact h.first h0
 | next _ hi hj hjn _ ih => exact hc _ hi ih _ ((nxA_mem hi).2 (.inl hj)) hjn
 | caught _ hi ht hj hjn ih => exact hc _ hi ih _ ((nxA_mem hi).2 (.inr ⟨ht, hj⟩)) hjn
end Go.Proofs.Ytoommeiiadobfaa
/- Memory while live registers spread; what brings marks to a place: the program's closure. -/
namespace Go.Proofs.Ytoommeiiadobfaa
open Go.RowKit Go
set_option linter.unusedVariables false
set_option linter.unusedSimpArgs false
def Mks (w : World) (g n : Nat) (m : Nat → Mk) : Prop := ∃ c : Array Value, w.heap[g]? = some (.cells c 59 (0, 0)) ∧ c.size = n ∧ ∀ j, j < n → c[j]? = some (.int .u64 ((m j).toNat : Int))
theorem Mks.fz {w : World} {g n : Nat} {m : Nat → Mk} (h : Mks w g n m) (i : Nat) : w.frozen? ⟨g, i, none⟩ = false := by
 obtain ⟨c, h1, _⟩ := h
 exact heap_thaw h1 i
theorem Mks.lt {w : World} {g n : Nat} {m : Nat → Mk} (h : Mks w g n m) : g < w.heap.size := by
 obtain ⟨c, h1, _⟩ := h
 exact heap_lt h1
theorem Mks.at' {w : World} {g n i : Nat} {m : Nat → Mk} (h : Mks w g n m) (hi : i < n) : w.cell? ⟨g, i, none⟩ = some (.int .u64 ((m i).toNat : Int)) := by
 obtain ⟨c, h1, h2, h3⟩ := h
 exact heap_cell h1 (h3 i hi)
theorem Mks.of {w w' : World} {g n : Nat} {m : Nat → Mk} (h : Mks w g n m) (e : w'.heap[g]? = w.heap[g]?) : Mks w' g n m := by
 obtain ⟨c, h1, h2⟩ := h
 exact ⟨c, e.trans h1, h2⟩
theorem Mks.below {w w' : World} {g n : Nat} {m : Nat → Mk} (h : Mks w g n m) (hb : Below w.heap.size w w') : Mks w' g n m := h.of (hb.block g h.lt)
theorem Mks.put {w : World} {g n p : Nat} {m : Nat → Mk} (h : Mks w g n m) (x : Mk) : Mks (w.setCell ⟨g, p, none⟩ (.int .u64 (x.toNat : Int))) g n (fun j => if j = p then x else m j) := by
 obtain ⟨c, h1, h2, h3⟩ := h
 refine ⟨_, heap_set h1 _, by simpa using h2, fun j hj => ?_⟩
 by_cases e : p = j
 ·subst e
  rw [Array.getElem?_setIfInBounds, if_pos rfl, if_pos (by omega)]
  simp
 ·rw [Array.getElem?_setIfInBounds, if_neg e]
  have e2 : ¬ j = p := fun h => e h.symm
  simp only [if_neg e2]
  exact h3 j hj
theorem Mks.congr {w : World} {g n : Nat} {m m' : Nat → Mk} (h : Mks w g n m) (e : ∀ j, j < n → m j = m' j) : Mks w g n m' := by
 obtain ⟨c, h1, h2, h3⟩ := h
 exact ⟨c, h1, h2, fun j hj => by rw [← e j hj]; exact h3 j hj⟩
theorem Mks.made (w : World) (n : Nat) : Mks (w.alloc (.cells (madeCells #[.int .u64 0] n) 59)) w.heap.size n (fun _ => 0) :=
 ⟨_, heap_alloc_new w _, by rw [size_madeCells], fun i hi => made_at0 _ _ _ _ hi (by rw [show i % (#[Value.int .u64 0] : Array Value).size = 0 from Nat.mod_one i]; rfl)⟩
theorem info_set : (Try.prog.info? 59).map (fun i => (i.zero, i.size, i.bytes)) = some (some (.int .u64 0), 1, 8) := by kernel_rfl
theorem make_sets (n : Nat) (hn : n * 8 ≤ 140737488355328) (w : World) :
  (Instr.makeSlice 50 (.int .i64 (n : Int)) (.int .i64 (n : Int))).run Try.prog w = .ok (.slice (some ⟨w.heap.size, 0, none⟩) n n) (w.alloc (.cells (madeCells #[.int .u64 0] n) 59)) := by
 obtain ⟨i0, hi0, hz0, hz1, hz2⟩ := info_parts info_set
 have h := run_make (P := Try.prog) w 50 59 i0 _ Try.underlying50 hi0 hz0 .i64 .i64 n n (by omega) (Int.le_refl _) (by rw [hz2]; omega) (by omega)
 rw [h, hz1, Nat.mul_one]
 rfl
theorem blk_ne {w : World} {a b : Nat} {c1 c2 : Array Value} {t1 t2 : TypeId} {f1 f2 : Nat × Nat} (h1 : w.heap[a]? = some (.cells c1 t1 f1)) (h2 : w.heap[b]? = some (.cells c2 t2 f2)) (ht : t1 ≠ t2) : a ≠ b := by
 intro e
 subst e
 rw [h1] at h2
 injection h2 with h2
 injection h2 with _ h2
 exact ht h2
theorem own_net {w : World} {B k : Nat} {v : Value} {l : List Int} {c : Array Value} {T : TypeId} (h : OwN w B v l) (hk : w.heap[k]? = some (.cells c T (0, 0))) (hT : T ≠ 3) : v.ownBlock ≠ some k := by
 rcases h.2 with ⟨rfl, _⟩ | ⟨g, cap, cur, rfl, _, hg, _⟩
 ·intro e; cases e
 ·intro e
  injection e with e
  subst e
  rw [hg] at hk
  injection hk with hk
  injection hk with _ hk
  exact hT hk.symm
theorem BooB.net {w : World} {H n k B : Nat} {W : Nat → Bool} {v : Value} {l : List Int} (h : BooB w H n W k) (ho : OwN w B v l) : v.ownBlock ≠ some H := by
 obtain ⟨c, h1, _⟩ := h
 exact own_net ho h1 (by decide)
structure LvM (LB WB TB G H B n : Nat) (m : Nat → Mk) (W : Nat → Bool) (T : List Nat) (w : World) : Prop where
 lb : w.heap[LB]? = some (.cells #[.slice (some ⟨G, 0, none⟩) n n] 50 (0, 0))
 wb : w.heap[WB]? = some (.cells #[.slice (some ⟨H, 0, none⟩) n n] 81 (0, 0))
 marks : Mks w G n m
 waits : BooB w H n W n
 todo : ∃ v, w.heap[TB]? = some (.cells #[v] 22 (0, 0)) ∧ OwN w B v (T.map fun i : Nat => (i : Int))
 wts : Wts W T
 big : B ≤ w.heap.size
 low : LB < B ∧ TB < B ∧ G < B
def LvX (TB G H B k : Nat) : Prop := k = G ∨ k = H ∨ k = TB ∨ B ≤ k
theorem LvM.ne {LB WB TB G H B n : Nat} {m : Nat → Mk} {W : Nat → Bool} {T : List Nat} {w : World} (h : LvM LB WB TB G H B n m W T w) : G ≠ LB ∧ G ≠ WB ∧ G ≠ TB ∧ G ≠ H ∧ H ≠ LB ∧ H ≠ WB ∧ H ≠ TB ∧ TB ≠ LB ∧ TB ≠ WB := by
 obtain ⟨c, h1, _⟩ := h.marks
 obtain ⟨d, h2, _⟩ := h.waits
 obtain ⟨v, h3, _⟩ := h.todo
 exact ⟨blk_ne h1 h.lb (by decide), blk_ne h1 h.wb (by decide), blk_ne h1 h3 (by decide), blk_ne h1 h2 (by decide), blk_ne h2 h.lb (by decide), blk_ne h2 h.wb (by decide), blk_ne h2 h3 (by decide), blk_ne h3 h.lb (by decide), blk_ne h3 h.wb (by decide)⟩
theorem LvM.below {LB WB TB G H B n : Nat} {m : Nat → Mk} {W : Nat → Bool} {T : List Nat} {w w' : World} (h : LvM LB WB TB G H B n m W T w) (hb : Below w.heap.size w w') : LvM LB WB TB G H B n m W T w' where
 lb := heap_keep h.lb hb
 wb := heap_keep h.wb hb
 marks := h.marks.below hb
 waits := h.waits.of (hb.block H h.waits.lt)
 todo := by obtain ⟨v, h1, h2⟩ := h.todo; exact ⟨v, heap_keep h1 hb, own_below h2 hb⟩
 wts := h.wts
 big := Nat.le_trans h.big hb.size
 low := h.low
set_option maxHeartbeats 8000000 in
set_option maxRecDepth 100000 in
theorem bring_l (LB WB TB G H B n : Nat) (m : Nat → Mk) (W : Nat → Bool) (T : List Nat) (p : Nat) (more : Mk) (w : World) (h : Hid (LvM LB WB TB G H B n m W T w)) (hp : Hid (p < n)) (hT : Hid ((T.length + 1) * 8 ≤ 140737488355328)) :
  Calls Try.prog 91 #[.int .i64 (p : Int), .int .u64 (more.toNat : Int), .pointer (some ⟨LB, 0, none⟩), .pointer (some ⟨WB, 0, none⟩), .pointer (some ⟨TB, 0, none⟩)] w fun e w' => e = .returned (.tuple #[]) ∧ ∃ (m' : Nat → Mk) (W' : Nat → Bool) (T' : List Nat), Brg n (p : Int) more m T m' T' ∧ LvM LB WB TB G H B n m' W' T' w' ∧ Ch (LvX TB G H B) w w' := by
 obtain ⟨n1, n2, n3, n4, n5, n6, n7, n8, n9⟩ := h.out.ne
 have n1' : ¬ LB = G := fun e => n1 e.symm
 have n2' : ¬ WB = G := fun e => n2 e.symm
 have n3' : ¬ TB = G := fun e => n3 e.symm
 have n4' : ¬ H = G := fun e => n4 e.symm
 have n5' : ¬ LB = H := fun e => n5 e.symm
 have n6' : ¬ WB = H := fun e => n6 e.symm
 have n7' : ¬ TB = H := fun e => n7 e.symm
 have n8' : ¬ LB = TB := fun e => n8 e.symm
 have n9' : ¬ WB = TB := fun e => n9 e.symm
 have hpn : (p : Int) < n := by have := hp.out; omega
 have q0 := heap_cell (i := 0) h.out.lb rfl
 have q1 := heap_cell (i := 0) h.out.wb rfl
 have q2 := h.out.marks.at' hp.out
 have q3 := h.out.waits.at' hp.out hp.out
 have z1 := h.out.marks.fz p
 have z2 := h.out.waits.fz p
 have g1 := h.out.marks.lt
 have g2 := h.out.waits.lt
 obtain ⟨x, hx⟩ : ∃ x, m p = x := ⟨_, rfl⟩
 rw [hx] at q2
 obtain ⟨y, hy⟩ : ∃ y, more &&& ~~~x = y := ⟨_, rfl⟩
 have hz0 := msk_zero (x := y)
 have han := andNot_u more x
 rw [hy] at han
 by_cases hz : y = 0
 ·have hzb : decide (y = 0) = true := by simpa using hz
  rw [hzb] at hz0
  have HB : Hid (Brg n (p : Int) more m T m T) := lhid (Brg.no fun q hq _ => by
   have e : p = q := by omega
   subst e
   rw [hx, hy]
   exact hz)
  clear hz hzb hx hy
  go_enter Try.func91, Try.ntmps91
  go_wp2_with fail
  exact ⟨rfl, _, results_none rfl _ _ _, rfl, m, W, T, HB.out, h.out, Ch.refl _ _⟩
 ·have hzb : decide (y = 0) = false := by simpa using hz
  rw [hzb] at hz0
  obtain ⟨u, hu⟩ : ∃ u : Mk, x ||| more = u := ⟨_, rfl⟩
  have hor : bits .or .u64 (x.toNat : Int) (more.toNat : Int) = (u.toNat : Int) := by rw [or_u, hu]
  have HNZ : Hid (more &&& ~~~(m p) ≠ 0) := lhid (by rw [hx, hy]; exact hz)
  have HMK : Hid (∀ j, j < n → (fun j => if j = p then u else m j) j = brM m p more j) := lhid (fun j _ => by
   show (if j = p then u else m j) = if j = p then m j ||| more else m j
   split
   ·rename_i e; subst e; rw [hx, hu]
   ·rfl)
  have hmk1 : Mks (w.setCell ⟨G, p, none⟩ (.int .u64 (u.toNat : Int))) G n (fun j => if j = p then u else m j) := h.out.marks.put u
  have HM1 := lhid (hmk1.congr HMK.out)
  clear hz hzb hx hy hu hmk1 HMK
  cases hw : W p with
  | true =>
   rw [hw] at q3
   have HB := lhid (Brg.again (T := T) hp.out HNZ.out ((h.out.wts.iff p).1 hw))
   clear hw
   go_enter Try.func91, Try.ntmps91
   go_wp2_with fail
   have hc := (Ch.refl (fun k => k = G) w).set (p := ⟨G, p, none⟩) (fun _ => rfl) (.int .u64 (u.toNat : Int))
   refine ⟨rfl, _, results_none rfl _ _ _, rfl, brM m p more, W, T, HB.out, ⟨hc.keep h.out.lb n1', hc.keep h.out.wb n2', HM1.out, h.out.waits.of (hc.block H g2 n4'), ?_, h.out.wts, by simpa [World.setCell] using h.out.big, h.out.low⟩, hc.mono fun k _ e => .inl e⟩
   obtain ⟨v, h1, h2⟩ := h.out.todo
   exact ⟨v, hc.keep h1 n3', own_ch h2 hc (fun g hg e => by have := own_lt h2 g hg; have := h.out.low; omega)⟩
  | false =>
   rw [hw] at q3
   have HB := lhid (Brg.yes (T := T) hp.out HNZ.out)
   have HWT := lhid (h.out.wts.push hw)
   obtain ⟨v, hv, ho⟩ := h.out.todo
   obtain ⟨L, hL⟩ : ∃ L, (T.map fun i : Nat => (i : Int)) = L := ⟨_, rfl⟩
   have hLl : L.length = T.length := by rw [← hL]; simp
   have HLL := lhid hLl
   rw [hL] at ho
   have HL := lhid hL
   obtain ⟨A, ac, hva⟩ := own_shape ho
   subst hva
   have q4 := heap_cell (i := 0) hv rfl
   have z4 := heap_thaw hv 0
   have g4 := heap_lt hv
   have hnH := h.out.waits.net ho
   have hnW := own_net ho h.out.wb (by decide)
   have HNH : Hid (∀ g, (Value.slice A L.length ac).ownBlock = some g → g ≠ H ∧ g ≠ WB) := lhid (fun g hg => ⟨fun e => hnH (by rw [hg, e]), fun e => hnW (by rw [hg, e])⟩)
   have HO := lhid ho
   have HV := lhid hv
   clear hw hv ho hL hLl hnH hnW
   go_enter Try.func91, Try.ntmps91
   go_upto_region 4 with fail
   obtain ⟨w1, hw1⟩ : ∃ w1, w1 = w.setCell ⟨G, p, none⟩ (.int .u64 (u.toNat : Int)) := ⟨_, rfl⟩
   obtain ⟨w2, hw2⟩ : ∃ w2, w2 = w1.setCell ⟨H, p, none⟩ (.bool true) := ⟨_, rfl⟩
   rw [← hw1] at HM1 ⊢
   rw [← hw2]
   have hc1 : Ch (fun k => k = G) w w1 := by rw [hw1]; exact (Ch.refl (fun k => k = G) w).set (p := ⟨G, p, none⟩) (fun _ => rfl) _
   have hc2 : Ch (fun k => k = H) w1 w2 := by rw [hw2]; exact (Ch.refl (fun k => k = H) w1).set (p := ⟨H, p, none⟩) (fun _ => rfl) _
   have hs1 : w1.heap.size = w.heap.size := by rw [hw1]; simp
   have hs2 : w2.heap.size = w.heap.size := by rw [hw2]; simp [hs1]
   have hW1 : BooB w1 H n W n := h.out.waits.of (hc1.block H g2 n4')
   have HW2 : Hid (BooB w2 H n (fun j => if j = p then true else W j) n) := lhid (by rw [hw2]; exact hW1.upd)
   have HM2 : Hid (Mks w2 G n (brM m p more)) := lhid (HM1.out.of (hc2.block G (by omega) n4))
   have HV2 : Hid (w2.heap[TB]? = some (.cells #[.slice A L.length ac] 22 (0, 0))) := lhid (hc2.keep (hc1.keep HV.out n3') n7')
   have HO2 : Hid (OwN w2 B (.slice A L.length ac) L) := lhid (own_ch (own_ch HO.out hc1 (fun g hg e => by have := own_lt HO.out g hg; have := h.out.low; omega)) hc2 (fun g hg e => (HNH.out g hg).1 e))
   have HC2 : Hid (Ch (LvX TB G H B) w w2) := lhid ((hc1.mono (Y := LvX TB G H B) fun k _ e => .inl e).trans (hc2.mono (Y := LvX TB G H B) fun k _ e => .inr (.inl e)) (fun _ _ e => e))
   have HLB2 : Hid (w2.heap[LB]? = some (.cells #[.slice (some ⟨G, 0, none⟩) n n] 50 (0, 0)) ∧ w2.heap[WB]? = some (.cells #[.slice (some ⟨H, 0, none⟩) n n] 81 (0, 0))) := lhid ⟨hc2.keep (hc1.keep h.out.lb n1') n5', hc2.keep (hc1.keep h.out.wb n2') n6'⟩
   have q5 := heap_cell (i := 0) HV2.out rfl
   have z5 := heap_thaw HV2.out 0
   have g5 := heap_lt HV2.out
   have hB2 : B ≤ w2.heap.size := by have := h.out.big; omega
   clear hw1 hw2 hc1 hc2 hs1 hs2 hW1 HM1 q0 q1 q2 q3 q4 z1 z2 z4 g1 g2 g4 hor hz0 han
   go_wp2_with (at_builtin; refine wpList_append_fresh rfl (.tmp 29) (.tmp 31) rfl B (.slice A L.length ac) L rfl (HO2.out.alloc _) ⟨w2.heap.size, 0, none⟩ 1 (p : Int) rfl ?cell ?big ?len ?_)
   case cell => exact heap_cell (i := 0) (heap_alloc_new w2 (.cells #[.int .i64 (p : Int)] 3)) rfl
   case big => simp; omega
   case len => rw [HLL.out]; exact hT.out
   intro v' w4 ho4 hg4 _
   have hTB4 : w4.heap[TB]? = some (.cells #[.slice A L.length ac] 22 (0, 0)) := (hg4.block TB (by simp; omega) (fun e => by have := own_lt HO2.out TB e.symm; have := h.out.low; omega)).trans ((Below.heap_alloc _ _ _ g5).trans HV2.out)
   have q6 := heap_cell (i := 0) hTB4 rfl
   have z6 := heap_thaw hTB4 0
   have g6 := heap_lt hTB4
   obtain ⟨A4, c4, rfl⟩ := own_shape ho4
   have HO4 := lhid ho4
   have HG4 := lhid hg4
   have HT4 := lhid hTB4
   clear ho4 hg4 hTB4
   go_wp2_with fail
   have hc4 : Ch (fun k => k = TB ∨ (Value.slice A L.length ac).ownBlock = some k) w2 w4 := ((Ch.refl (fun k => k = TB ∨ (Value.slice A L.length ac).ownBlock = some k) w2).alloc _).grown HG4.out (fun k e _ => .inr e)
   have hc : Ch (fun k => k = TB ∨ (Value.slice A L.length ac).ownBlock = some k) w2 (w4.setCell ⟨TB, 0, none⟩ (.slice A4 (L ++ [(p : Int)]).length c4)) := hc4.set (p := ⟨TB, 0, none⟩) (fun _ => .inl rfl) _
   have hlow := h.out.low
   have hno : ∀ k, k < B → ¬ (Value.slice A L.length ac).ownBlock = some k := fun k hk e => by have := own_lt HO2.out k e; omega
   have hno2 : ¬ (Value.slice A L.length ac).ownBlock = some H := fun e => (HNH.out H e).1 rfl
   have hno3 : ¬ (Value.slice A L.length ac).ownBlock = some WB := fun e => (HNH.out WB e).2 rfl
   rw [show L.length + 1 = (L ++ [(p : Int)]).length by simp]
   refine ⟨rfl, _, results_none rfl _ _ _, rfl, brM m p more, _, T ++ [p], HB.out, ⟨hc.keep HLB2.out.1 (fun e => e.elim n8' (hno LB hlow.1)), hc.keep HLB2.out.2 (fun e => e.elim n9' hno3), HM2.out.of (hc.block G HM2.out.lt (fun e => e.elim n3 (hno G hlow.2.2))), HW2.out.of (hc.block H HW2.out.lt (fun e => e.elim n7 hno2)), ⟨_, by have := heap_set (i := 0) HT4.out (.slice A4 (L ++ [(p : Int)]).length c4); simpa using this, ?_⟩, HWT.out, Nat.le_trans hB2 hc.size, hlow⟩, HC2.out.trans (hc.mono (Y := LvX TB G H B) fun k _ e => e.elim (fun e => .inr (.inr (.inl e))) (fun e => .inr (.inr (.inr (own_lt HO2.out k e))))) (fun _ _ e => e)⟩
   rw [List.map_append, HL.out]
   have h9 := HO4.out
   rw [show (L ++ [(p : Int)]).length = L.length + 1 by simp] at h9
   show OwN _ B (.slice A4 (L.length + 1) c4) (L ++ [(p : Int)])
   exact own_ch h9 ((Ch.refl (fun k => k = TB) w4).set (p := ⟨TB, 0, none⟩) (fun _ => rfl) _) (fun g hg e => by have := own_lt h9 g hg; omega)
end Go.Proofs.Ytoommeiiadobfaa
/- The memory of live's spread: lists of lists that can be read; what stands while live registers spread. -/
namespace Go.Proofs.Ytoommeiiadobfaa
open Go.RowKit Go
set_option linter.unusedVariables false
set_option linter.unusedSimpArgs false
def LsE (P : Nat → Prop) (w : World) (l : List Int) (c : List Value) : Prop := ∃ u, c = [u] ∧ RdX P 1 NuE w u l
theorem keptX_ls (P : Nat → Prop) : KeptX P (LsE P) := by
 rintro w w' x c hb ⟨v, rfl, h⟩
 exact ⟨v, rfl, h.kept (keptX_nu P) hb⟩
theorem ls_ne {P : Nat → Prop} {w : World} (a : List Int) (c : List Value) (h : LsE P w a c) : c ≠ [] := by obtain ⟨_, rfl, _⟩ := h; simp
theorem ls_cell {P : Nat → Prop} {w : World} {A : Option Addr} {n cap i : Nat} {L : List (List Int)} {l : List Int} (h : RdX P 1 (LsE P) w (.slice A n cap) L) (hi : L[i]? = some l) : ∃ g o UA uc, A = some ⟨g, o, none⟩ ∧ w.cell? ⟨g, o + i, none⟩ = some (.slice UA l.length uc) ∧ RdX P 1 NuE w (.slice UA l.length uc) l := by
 obtain ⟨g, o, c, h1, _, ⟨u, h2, h3⟩, h4⟩ := h.at' hi
 subst h2
 obtain ⟨UA, uc, h5⟩ := h3.shape
 subst h5
 have h6 := h4 0 _ rfl
 rw [Nat.add_zero, Nat.mul_one] at h6
 exact ⟨g, o, UA, uc, h1, h6, h3⟩
theorem nu_cell {P : Nat → Prop} {w : World} {A : Option Addr} {n cap i : Nat} {L : List Int} {z : Int} (h : RdX P 1 NuE w (.slice A n cap) L) (hi : L[i]? = some z) : ∃ g o, A = some ⟨g, o, none⟩ ∧ w.cell? ⟨g, o + i, none⟩ = some (.int .i64 z) := by
 obtain ⟨g, o, c, h1, _, h2, h4⟩ := h.at' hi
 have h2 : c = [.int .i64 z] := h2
 subst h2
 have h6 := h4 0 _ rfl
 rw [Nat.add_zero, Nat.mul_one] at h6
 exact ⟨g, o, h1, h6⟩
def regM (F : Int) : List Int → Mk
 | [] => 0
 | r :: l => bitN r F ||| regM F l
theorem regM_get (F : Nat) (l : List Int) (b : Nat) : (regM F l).getLsbD b = true ↔ b < 64 ∧ ((F + b : Nat) : Int) ∈ l := by
 induction l with
 | nil => simp [regM]
 | cons r l ih =>
  rw [regM, BitVec.getLsbD_or, Bool.or_eq_true, ih, bitN_get]
  simp only [Bool.and_eq_true, decide_eq_true_eq, List.mem_cons]
  constructor
  ·rintro (⟨h1, h2⟩ | ⟨h1, h2⟩)
   ·exact ⟨h1, .inl (by omega)⟩
   ·exact ⟨h1, .inr h2⟩
  ·rintro ⟨h1, h2 | h2⟩
   ·exact .inl ⟨h1, by omega⟩
   ·exact .inr ⟨h1, h2⟩
theorem setOf_r {P : Nat → Prop} (F : Nat) (rv : Value) (l : List Int) (U : Mk) (w : World) (h : Hid (RdX P 1 NuE w rv l)) (hF : Hid (F ≤ 1099511627776)) (hp : Hid (∀ r ∈ l, I64 r)) (hU : Hid (regM F l = U)) :
  Calls Try.prog 54 #[.int .i64 (F : Int), rv] w fun e w' => e = .returned (.int .u64 (U.toNat : Int)) ∧ w' = w := by
 refine (setOf_c F rv l w h hF hp).mono ?_
 rintro e w' ⟨V, rfl, hV, rfl⟩
 refine ⟨?_, rfl⟩
 have : V = U := by
  rw [← hU.out]
  apply BitVec.eq_of_getLsbD_eq
  intro b _
  rw [Bool.eq_iff_iff, hV b, regM_get]
 rw [this]
structure LvD (TB G H R TW B : Nat) (wd : World) : Prop where
 rg : R ≠ G
 tg : TW ≠ G
 rt : R ≠ TW
 rh : R ≠ H
 th : TW ≠ H
 rb : R ≠ TB
 tb : TW ≠ TB
 rB : R < B
 tB : TW < B
 big : B = wd.heap.size
def LvY (TB G H R TW B k : Nat) : Prop := LvX TB G H B k ∨ k = R ∨ k = TW
structure LvS (wd : World) (LB WB TB G H R TW B n S : Nat) (m : Nat → Mk) (W : Nat → Bool) (T : List Nat) (wm tm : Nat → Mk) (wr : World) : Prop where
 num : LvD TB G H R TW B wd
 mem : LvM LB WB TB G H B n m W T wr
 wrt : Mks wr R n wm
 thr : Mks wr TW S tm
 ch : Ch (LvY TB G H R TW B) wd wr
section
variable {wd wr : World} {LB WB TB G H R TW B n S : Nat} {m : Nat → Mk} {W : Nat → Bool} {T : List Nat} {wm tm : Nat → Mk}
theorem LvS.bring {m' : Nat → Mk} {W' : Nat → Bool} {T' : List Nat} {w5 : World} (h : LvS wd LB WB TB G H R TW B n S m W T wm tm wr) (hm : LvM LB WB TB G H B n m' W' T' w5) (hc : Ch (LvX TB G H B) wr w5) : LvS wd LB WB TB G H R TW B n S m' W' T' wm tm w5 where
 num := h.num
 mem := hm
 wrt := h.wrt.of (hc.block R h.wrt.lt (by have := h.num; rintro (e | e | e | e); exact this.rg e; exact this.rh e; exact this.rb e; have := this.rB; omega))
 thr := h.thr.of (hc.block TW h.thr.lt (by have := h.num; rintro (e | e | e | e); exact this.tg e; exact this.th e; exact this.tb e; have := this.tB; omega))
 ch := h.ch.trans (hc.mono (Y := LvY TB G H R TW B) fun _ _ e => .inl e) (fun _ _ e => e)
theorem LvS.below {w5 : World} (h : LvS wd LB WB TB G H R TW B n S m W T wm tm wr) (hb : Below wr.heap.size wr w5) : LvS wd LB WB TB G H R TW B n S m W T wm tm w5 where
 num := h.num
 mem := h.mem.below hb
 wrt := h.wrt.below hb
 thr := h.thr.below hb
 ch := h.ch.below hb
theorem LvS.setT {p : Nat} (h : LvS wd LB WB TB G H R TW B n S m W T wm tm wr) (u : Mk) : LvS wd LB WB TB G H R TW B n S m W T wm (fun j => if j = p then u else tm j) (wr.setCell ⟨TW, p, none⟩ (.int .u64 (u.toNat : Int))) where
 num := h.num
 mem := by
  have hc := (Ch.refl (fun k => k = TW) wr).set (p := ⟨TW, p, none⟩) (fun _ => rfl) (.int .u64 (u.toNat : Int))
  obtain ⟨c, h1, _⟩ := h.thr
  obtain ⟨v, h2, h3⟩ := h.mem.todo
  exact ⟨hc.keep h.mem.lb (fun e => blk_ne h1 h.mem.lb (by decide) e.symm), hc.keep h.mem.wb (fun e => blk_ne h1 h.mem.wb (by decide) e.symm), h.mem.marks.of (hc.block G h.mem.marks.lt (fun e => h.num.tg e.symm)), h.mem.waits.of (hc.block H h.mem.waits.lt (fun e => h.num.th e.symm)), ⟨v, hc.keep h2 (fun e => h.num.tb e.symm), own_ch h3 hc (fun g hg e => by have := own_lt h3 g hg; have := h.num.tB; omega)⟩, h.mem.wts, by simpa [World.setCell] using h.mem.big, h.mem.low⟩
 wrt := h.wrt.of (Below.heap_setCell _ _ _ _ h.num.rt)
 thr := h.thr.put u
 ch := h.ch.set (p := ⟨TW, p, none⟩) (fun _ => .inr (.inr rfl)) _
theorem LvS.keep {k : Nat} {c : Array Value} {t : TypeId} {f : Nat × Nat} (h : LvS wd LB WB TB G H R TW B n S m W T wm tm wr) (hk : wd.heap[k]? = some (.cells c t f)) (h1 : k ≠ G) (h2 : k ≠ H) (h3 : k ≠ TB) (h4 : k ≠ R) (h5 : k ≠ TW) : wr.heap[k]? = some (.cells c t f) :=
 h.ch.keep hk (by rintro ((e | e | e | e) | e | e); exact h1 e; exact h2 e; exact h3 e; (have := heap_lt hk; have := h.num.big; omega); exact h4 e; exact h5 e)
theorem LvS.to {b : Nat} (h : LvS wd LB WB TB G H R TW B n S m W T wm tm wr) (hb : b ≤ G ∧ b ≤ H ∧ b ≤ TB ∧ b ≤ R ∧ b ≤ TW ∧ b ≤ B) : Below b wd wr :=
 h.ch.to (by have := h.num.big; omega) (by rintro k ((e | e | e | e) | e | e) <;> omega)
theorem LvS.pop {i g N cap : Nat} {T' : List Nat} (h : LvS wd LB WB TB G H R TW B n S m W (T' ++ [i]) wm tm wr) {M : Nat} (hv : wr.heap[TB]? = some (.cells #[.slice (some ⟨g, 0, none⟩) M cap] 22 (0, 0))) (ho : OwN wr B (.slice (some ⟨g, 0, none⟩) N cap) (T'.map fun i : Nat => (i : Int))) (hi : i < n) :
  LvS wd LB WB TB G H R TW B n S m (fun j => if j = i then false else W j) T' wm tm ((wr.setCell ⟨TB, 0, none⟩ (.slice (some ⟨g, 0, none⟩) N cap)).setCell ⟨H, i, none⟩ (.bool false)) := by
 obtain ⟨n1, n2, n3, n4, n5, n6, n7, n8, n9⟩ := h.mem.ne
 have hc1 := (Ch.refl (fun k => k = TB) wr).set (p := ⟨TB, 0, none⟩) (fun _ => rfl) (.slice (some ⟨g, 0, none⟩) N cap)
 have hc2 := (Ch.refl (fun k => k = H) (wr.setCell ⟨TB, 0, none⟩ (.slice (some ⟨g, 0, none⟩) N cap))).set (p := ⟨H, i, none⟩) (fun _ => rfl) (.bool false)
 have hs1 : (wr.setCell ⟨TB, 0, none⟩ (.slice (some ⟨g, 0, none⟩) N cap)).heap.size = wr.heap.size := by simp
 have hlow := h.mem.low
 have hgB : ∀ b, (Value.slice (some ⟨g, 0, none⟩) N cap).ownBlock = some b → B ≤ b := fun b hb => own_lt ho b hb
 have hW1 : BooB (wr.setCell ⟨TB, 0, none⟩ (.slice (some ⟨g, 0, none⟩) N cap)) H n W n := h.mem.waits.of (hc1.block H h.mem.waits.lt n7)
 have hW2 : BooB ((wr.setCell ⟨TB, 0, none⟩ (.slice (some ⟨g, 0, none⟩) N cap)).setCell ⟨H, i, none⟩ (.bool false)) H n (fun j => if j = i then false else W j) n := by
  obtain ⟨c, h1, h2, h3⟩ := hW1
  refine ⟨_, heap_set h1 _, by simpa using h2, fun j hj => ?_⟩
  by_cases e : i = j
  ·subst e
   exact ⟨false, by rw [Array.getElem?_setIfInBounds, if_pos rfl, if_pos (by omega)], fun _ => by simp⟩
  ·obtain ⟨y, h4, h5⟩ := h3 j hj
   exact ⟨y, by rw [Array.getElem?_setIfInBounds, if_neg e]; exact h4, fun h => by rw [h5 h]; show W j = if j = i then false else W j; rw [if_neg (fun e2 => e e2.symm)]⟩
 have kk : ∀ {k : Nat} {o : Obj}, wr.heap[k]? = some o → k ≠ TB → k ≠ H → ((wr.setCell ⟨TB, 0, none⟩ (.slice (some ⟨g, 0, none⟩) N cap)).setCell ⟨H, i, none⟩ (.bool false)).heap[k]? = some o := fun hk h1 h2 => hc2.keep (hc1.keep hk h1) h2
 have kb : ∀ k, k < wr.heap.size → k ≠ TB → k ≠ H → ((wr.setCell ⟨TB, 0, none⟩ (.slice (some ⟨g, 0, none⟩) N cap)).setCell ⟨H, i, none⟩ (.bool false)).heap[k]? = wr.heap[k]? := fun k hk h1 h2 => (hc2.block k (by omega) h2).trans (hc1.block k hk h1)
 refine ⟨h.num, ⟨kk h.mem.lb (fun e => n8 e.symm) (fun e => n5 e.symm), kk h.mem.wb (fun e => n9 e.symm) (fun e => n6 e.symm), h.mem.marks.of (kb G h.mem.marks.lt n3 n4), hW2, ⟨_, ?_, own_of ho fun b hb => kb b ((ho.lt b hb).2) (by have := hgB b hb; omega) (fun e => h.mem.waits.net ho (by rw [hb, e]))⟩, h.mem.wts.pop, by simpa [World.setCell] using h.mem.big, h.mem.low⟩, h.wrt.of (kb R h.wrt.lt h.num.rb h.num.rh), h.thr.of (kb TW h.thr.lt h.num.tb h.num.th), (h.ch.set (p := ⟨TB, 0, none⟩) (fun _ => .inl (.inr (.inr (.inl rfl)))) _).set (p := ⟨H, i, none⟩) (fun _ => .inl (.inr (.inl rfl))) _⟩
 have h9 := heap_set (i := 0) hv (.slice (some ⟨g, 0, none⟩) N cap)
 exact hc2.keep (by simpa using h9) (fun e => n7 e.symm)
end
end Go.Proofs.Ytoommeiiadobfaa
/- The document's search for a read, with a list of open places: plain words, and an append of one own list to another. -/
namespace Go.Proofs.Ytoommeiiadobfaa
open Go.RowKit Go
set_option linter.unusedVariables false
set_option linter.unusedSimpArgs false
def sucL (f : FuI) (r : Int) (i : Nat) (x : InI) : List Int := caughtL f i ++ (if defI x = r then [] else nextL f i)
inductive PR (f : FuI) (r : Int) (st : List Int) : Nat → Prop
 | first {j : Nat} : (j : Int) ∈ st → j < f.code.length → PR f r st j
 | step {i j : Nat} {x : InI} : PR f r st i → f.code[i]? = some x → (j : Int) ∈ sucL f r i x → j < f.code.length → PR f r st j
theorem caught_iff {f : FuI} {i : Nat} {x : InI} (hx : f.code[i]? = some x) (j : Int) : j ∈ caughtL f i ↔ throwsB x.op = true ∧ j ∈ catL f.rows i := by
 have hcg : caughtL f i = if throwsB x.op then uniqL (catL f.rows i) else [] := by unfold caughtL; rw [atC_some hx]
 rw [hcg]
 cases throwsB x.op with
 | true => simp only [if_true, true_and]; exact ⟨uniq_mem, mem_uniq⟩
 | false => simp
theorem caughtL_len (f : FuI) (i : Int) : (caughtL f i).length ≤ f.rows.length := by
 unfold caughtL
 split
 ·simp
 ·split
  ·exact Nat.le_trans (uniq_len _) (catL_len _ _)
  ·simp
theorem sucL_len (f : FuI) (r : Int) (i : Nat) (x : InI) : (sucL f r i x).length ≤ f.rows.length + 2 := by
 have h1 := caughtL_len f i
 have h2 := nextL_two f i
 unfold sucL
 rw [List.length_append]
 split
 ·simp; omega
 ·omega
structure Dfs (f : FuI) (r : Int) (st : List Int) (S : Nat → Bool) (T : List Int) : Prop where
 sound : ∀ i, i < f.code.length → S i = true → PR f r st i
 opn : ∀ t ∈ T, ∀ j : Nat, t = j → j < f.code.length → PR f r st j
 noread : ∀ i x, f.code[i]? = some x → S i = true → r ∉ usesI x
 closed : ∀ i x, f.code[i]? = some x → S i = true → ∀ j : Nat, (j : Int) ∈ sucL f r i x → j < f.code.length → S j = true ∨ (j : Int) ∈ T
 start : ∀ j : Nat, (j : Int) ∈ st → j < f.code.length → S j = true ∨ (j : Int) ∈ T
theorem Dfs.begin (f : FuI) (r : Int) (st : List Int) : Dfs f r st (fun _ => false) st :=
 ⟨fun _ _ h => (by cases h), fun t ht j e hj => .first (e ▸ ht) hj, fun _ _ _ h => (by cases h), fun _ _ _ h => (by cases h), fun j hj _ => .inr hj⟩
theorem Dfs.skip {f : FuI} {r : Int} {st : List Int} {S : Nat → Bool} {T : List Int} {i : Int} (h : Dfs f r st S (T ++ [i])) (hi : ∀ j : Nat, i = j → j < f.code.length → S j = true) : Dfs f r st S T where
 sound := h.sound
 opn t ht := h.opn t (List.mem_append_left _ ht)
 noread := h.noread
 closed a x hx ha j hj hjn := by
  rcases h.closed a x hx ha j hj hjn with h1 | h1
  ·exact .inl h1
  ·rcases List.mem_append.1 h1 with h2 | h2
   ·exact .inr h2
   ·exact .inl (hi j (List.mem_singleton.1 h2).symm hjn)
 start j hj hjn := by
  rcases h.start j hj hjn with h1 | h1
  ·exact .inl h1
  ·rcases List.mem_append.1 h1 with h2 | h2
   ·exact .inr h2
   ·exact .inl (hi j (List.mem_singleton.1 h2).symm hjn)
theorem Dfs.visit {f : FuI} {r : Int} {st : List Int} {S : Nat → Bool} {T : List Int} {i : Nat} {x : InI} (h : Dfs f r st S (T ++ [(i : Int)])) (hx : f.code[i]? = some x) (hr : r ∉ usesI x) : Dfs f r st (updB S i) (T ++ sucL f r i x) := by
 have hi : i < f.code.length := (List.getElem?_eq_some_iff.1 hx).1
 have hp : PR f r st i := h.opn i (by simp) i rfl hi
 have hup : ∀ j, S j = true → updB S i j = true := fun j hj => by unfold updB; split <;> first | rfl | exact hj
 have hmem : ∀ j : Nat, S j = true ∨ (j : Int) ∈ T ++ [(i : Int)] → updB S i j = true ∨ (j : Int) ∈ T ++ sucL f r i x := by
  intro j hj
  rcases hj with h1 | h1
  ·exact .inl (hup j h1)
  ·rcases List.mem_append.1 h1 with h2 | h2
   ·exact .inr (List.mem_append_left _ h2)
   ·have e : j = i := by have := List.mem_singleton.1 h2; omega
    subst e
    exact .inl (by simp [updB])
 refine ⟨fun j hj hs => ?_, fun t ht j e hj => ?_, fun j y hy hs => ?_, fun j y hy hs k hk hkn => ?_, fun j hj hjn => hmem j (h.start j hj hjn)⟩
 ·unfold updB at hs
  split at hs
  ·rename_i e; subst e; exact hp
  ·exact h.sound j hj hs
 ·rcases List.mem_append.1 ht with h1 | h1
  ·exact h.opn t (List.mem_append_left _ h1) j e hj
  ·exact .step hp hx (e ▸ h1) hj
 ·unfold updB at hs
  split at hs
  ·rename_i e
   subst e
   rw [hx] at hy
   injection hy with hy
   subst hy
   exact hr
  ·exact h.noread j y hy hs
 ·unfold updB at hs
  split at hs
  ·rename_i e
   subst e
   rw [hx] at hy
   injection hy with hy
   subst hy
   exact .inr (List.mem_append_right _ hk)
  ·exact hmem k (h.closed j y hy hs k hk hkn)
theorem Dfs.done {f : FuI} {r : Int} {st : List Int} {S : Nat → Bool} (h : Dfs f r st S []) : ∀ i x, f.code[i]? = some x → r ∈ usesI x → ¬ PR f r st i := by
 have key : ∀ i, PR f r st i → S i = true := by
  intro i hp
  induction hp with
  | first hj hjn => rcases h.start _ hj hjn with h1 | h1; exact h1; cases h1
  | step _ hx hj hjn ih => rcases h.closed _ _ hx ih _ hj hjn with h1 | h1; exact h1; cases h1
 exact fun i x hx hr hp => h.noread i x hx (key i hp) hr
theorem Dfs.less {f : FuI} {r : Int} {S : Nat → Bool} {T : List Int} {i n : Nat} {x : InI} (hi : i < n) (hs : S i = false) : cntF n (updB S i) * (f.rows.length + 3) + (T ++ sucL f r i x).length + 1 ≤ cntF n S * (f.rows.length + 3) + (T ++ [(i : Int)]).length := by
 have h1 := cntF_upd hi hs
 have h2 := sucL_len f r i x
 have h3 : (cntF n (updB S i) + 1) * (f.rows.length + 3) ≤ cntF n S * (f.rows.length + 3) := Nat.mul_le_mul_right _ h1
 rw [Nat.add_mul] at h3
 simp only [List.length_append, List.length_cons, List.length_nil]
 omega
theorem cntF_le (n : Nat) (S : Nat → Bool) : cntF n S ≤ n := by
 have := List.countP_le_length (p := fun i => !S i) (l := List.range n)
 simpa [cntF] using this
end Go.Proofs.Ytoommeiiadobfaa
/- Is each register written ahead of all that reads it: the document's Set. -/
namespace Go.Proofs.Ytoommeiiadobfaa
open Go.RowKit Go
set_option linter.unusedVariables false
set_option linter.unusedSimpArgs false
theorem ruses_w {P : Nat → Prop} (x : InI) (v : Value) (l : List Int) (w : World) (h : Hid (RdX P 1 NuE w v x.args)) (hby : Hid (x.args.length * 8 ≤ 140737488355328)) (hl : Hid (usesI x = l)) :
  Calls Try.prog 16 #[inA x v] w fun e w' => ∃ v', e = .returned v' ∧ OwN w' w.heap.size v' l ∧ Below w.heap.size w w' := by
 have := ruses_any x v w h hby
 rwa [hl.out] at this
theorem rdef_w (x : InI) (v : Value) (w : World) (d : Int) (hd : Hid (defI x = d)) : Calls Try.prog 17 #[inA x v] w fun e w' => e = .returned (.int .i64 d) ∧ Below w.heap.size w w' := by
 have := rdef_any x v w
 rwa [hd.out] at this
theorem rcaught_w {P : Nat → Prop} (f : FuI) (n : Nat) (hn : f.code.length = n) (l : List Int) (fa fb fd fe : Value) (i : Int) (w : World) (h : Hid (FuV P w f fa fb fd fe)) (hrl : Hid (f.rows.length * 8 ≤ 140737488355328)) (hl : Hid (caughtL f i = l)) :
  Calls Try.prog 40 #[fuL fa fb f.ret fd fe, .int .i64 i] w fun e w' => ∃ v, e = .returned v ∧ OwN w' w.heap.size v l ∧ Below w.heap.size w w' := by
 have := rcaught_any f fa fb fd fe i w h hrl
 rwa [hl.out] at this
theorem rnext_w {P : Nat → Prop} (f : FuI) (n : Nat) (hn : f.code.length = n) (l : List Int) (fa fb fd fe : Value) (i : Int) (w : World) (h : Hid (FuV P w f fa fb fd fe)) (hl : Hid (nextL f i = l)) :
  Calls Try.prog 36 #[fuL fa fb f.ret fd fe, .int .i64 i] w fun e w' => ∃ v, e = .returned v ∧ OwN w' w.heap.size v l ∧ Below w.heap.size w w' := by
 have := rnext_any f fa fb fd fe i w h
 rwa [hl.out] at this
theorem nextL_pos {f : FuI} (h : chkN f = 0) (i : Nat) : ∀ t ∈ nextL f i, 0 ≤ t := by
 intro t ht
 by_cases hi : i < f.code.length
 ·obtain ⟨x, hx⟩ : ∃ x, f.code[i]? = some x := ⟨_, List.getElem?_eq_getElem hi⟩
  unfold nextL at ht
  rw [atC_some hx] at ht
  have hg : t ∈ goOn x i → 0 ≤ t := by
   unfold goOn
   split
   ·intro h; cases h
   ·intro h; have := List.mem_singleton.1 h; omega
  simp only [nextX] at ht
  split at ht
  ·rename_i hl
   simp only [Bool.and_eq_true] at hl
   rcases List.mem_append.1 ht with h1 | h1
   ·exact hg h1
   ·have := chk_leads h x (List.mem_of_getElem? hx) hl.1
    have := List.mem_singleton.1 h1
    omega
  ·exact hg ht
 ·unfold nextL at ht
  rw [atC_none (by omega)] at ht
  cases ht
end Go.Proofs.Ytoommeiiadobfaa
/- Is there a way to a read: the document's search. -/
namespace Go.Proofs.Ytoommeiiadobfaa
open Go.RowKit Go
set_option linter.unusedVariables false
set_option linter.unusedSimpArgs false
set_option maxHeartbeats 1000000 in
set_option maxRecDepth 100000 in
theorem lin_any {P : Nat → Prop} (c : Int) (v : Value) (l : List Int) (w : World) (h : Hid (RdX P 1 NuE w v l)) :
  Calls Try.prog 62 #[v, .int .i64 c] w fun e w' => e = .returned (.bool (decide (c ∈ l))) ∧ w = w' := by
 obtain ⟨A, cap, rfl⟩ := h.out.shape
 have hl := h.out.len
 go_enter Try.func62, Try.ntmps62
 go_wp2_with fail
 go_loopw [5] (fun i wr => ∃ k : Nat, i = .int .i64 k ∧ k ≤ l.length ∧ Hid (c ∉ l.take k) ∧ wr = w) (fun i _ => l.length - (intOf i).toNat)
 case atStart => exact ⟨0, rfl, Nat.zero_le _, lhid (by simp), rfl⟩
 case round =>
  obtain ⟨k, rfl, hk, HN, rfl⟩ := hrel
  by_cases hlt : k < l.length
  ·obtain ⟨x, hx⟩ : ∃ x, l[k]? = some x := ⟨_, List.getElem?_eq_getElem hlt⟩
   obtain ⟨g, o, cc, rfl, _, hE, hc⟩ := h.out.at' hx
   have c0 : wr.cell? ⟨g, o + k, none⟩ = some (.int .i64 x) := by
    have := hc 0 (.int .i64 x) (by rw [hE]; rfl)
    rwa [Nat.mul_one] at this
   have k3 : (k : Int) < l.length := by omega
   have HX := lhid hx
   clear hx hc hE
   by_cases hxc : x = c
   ·have HM := lhid (List.mem_of_getElem? HX.out)
    have d0 : (x == c) = true := by rw [hxc]; simp
    have HXC := lhid hxc
    clear hxc
    go_wp2_with fail
    go_ret
    exact ⟨ret_bool (by rw [← HXC.out, decide_eq_true HM.out]), rfl⟩
   ·have d0 : (x == c) = false := by rw [beq_eq_false_iff_ne]; exact hxc
    have HM2 : Hid (c ∉ l.take (k + 1)) := lhid (by rw [List.take_add_one, HX.out]; simp only [Option.toList_some, List.mem_append, List.mem_singleton, not_or]; exact ⟨HN.out, fun e => hxc e.symm⟩)
    clear hxc
    go_wp2_with fail
    go_roundw
    case rel => exact ⟨k + 1, by go_num, by omega, HM2, trivial⟩
    case measure => simp [intOf]; omega
  ·have k3 : ¬ (k : Int) < l.length := by omega
   have hn := HN.out
   rw [List.take_of_length_le (by omega)] at hn
   have HN2 := lhid hn
   clear hn HN
   go_wp2_with fail
   go_ret
   exact ⟨ret_bool (by rw [decide_eq_false HN2.out]), rfl⟩
theorem lin_r {P : Nat → Prop} (c : Int) (v : Value) (l : List Int) (r : Bool) (w : World) (h : Hid (RdX P 1 NuE w v l)) (hr : Hid (decide (c ∈ l) = r)) :
  Calls Try.prog 62 #[v, .int .i64 c] w fun e w' => e = .returned (.bool r) ∧ w = w' := by
 have := lin_any c v l w h
 rwa [hr.out] at this
theorem own_ne {w : World} {B k : Nat} {v : Value} {l : List Int} {c : Array Value} {T : TypeId} (h : OwN w B v l) (hk : w.heap[k]? = some (.cells c T (0, 0))) (hT : T ≠ 3) : v.ownBlock ≠ some k := by
 rcases h.2 with ⟨rfl, _⟩ | ⟨g, cap, cur, rfl, _, hg, _⟩
 ·intro e; cases e
 ·intro e
  injection e with e
  subst e
  rw [hg] at hk
  injection hk with hk
  injection hk with _ hk
  exact hT hk.symm
theorem run_append_grow2 {w : World} {B : Nat} {v u : Value} {l m : List Int} (t : TypeId) (h : OwN w B v l) (k : OwN w B u m) (hb : B ≤ w.heap.size) (hl : (l.length + m.length) * 8 ≤ 140737488355328) :
  ∃ v' w', (Builtin.append_ #[22, 22] t #[v, u]).run Try.prog w = .ok v' w' ∧ OwN w' B v' (l ++ m) ∧ w.grownBy w' v.ownBlock := by
 obtain ⟨i0, hi0, hz0, hz1, hz2⟩ := info_parts info_nuP
 rcases k.2 with ⟨rfl, hn⟩ | ⟨g, cap, cur, rfl, hbg, hg, hnc, hcm, hcs, htake⟩
 ·have hnil : m = [] := List.eq_nil_of_length_eq_zero hn
  subst hnil
  have hr := run_append_owned_none (P := Try.prog) (w := w) B 22 t 3 i0 1 Try.underlying22 hi0 v l.length (l.map vI) h
  exact ⟨v, w, hr, by rw [List.append_nil]; exact h, ⟨rfl, rfl, rfl, Nat.le_refl _, fun _ _ _ => rfl⟩⟩
 ·have hnews : ∀ (j : Nat) (u : Value), (m.map vI)[j]? = some u → w.cell? ((⟨g, 0, none⟩ : Addr).add j) = some u := World.ownsRow.cells k (g := g) rfl
  have h1 : ∀ u ∈ m.map vI, u.oneCell' = true := by
   intro u hu
   rw [List.mem_map] at hu
   obtain ⟨a, _, rfl⟩ := hu
   rfl
  obtain ⟨v', w', hr, h2, h3, _⟩ := run_append_own (P := Try.prog) w B 22 t 3 i0 (.int .i64 0) 1 8 Try.underlying22 hi0 hz0 hz1 hz2 rfl (by decide) v l.length (l.map vI) h ⟨g, 0, none⟩ m.length cap (m.map vI) (by simp) hnews h1 (by unfold maxLen; omega) hl hb
  refine ⟨v', w', hr, ?_, h3⟩
  unfold OwN
  simpa using h2
theorem wpList_append_grow {w : World} {ops : Array Oper} {rest : List Oper} {o : Oper} {a : Act} {Q : Exit → Act → World → Prop} (hgd : o.guard = none) (s x : Operand)
  (ho : o.op = .call { callee := .builtin .append, args := #[s, x], argTypes := #[22, 22] })
  (B : Nat) (v u : Value) (l m : List Int) (hs : a.eval s = v) (hx : a.eval x = u) (h : OwN w B v l) (k : OwN w B u m) (hb : B ≤ w.heap.size) (hl : (l.length + m.length) * 8 ≤ 140737488355328)
  (hK : ∀ v' w', OwN w' B v' (l ++ m) → w.grownBy w' v.ownBlock → wpList Try.prog ops Q rest (a.put o.dst v') w') : wpList Try.prog ops Q (o :: rest) a w := by
 refine wpList_plain hgd fun K hK2 => ?_
 obtain ⟨v', w', hrun, h1, h2⟩ := run_append_grow2 o.type h k hb hl
 unfold Oper.wp
 simp [execOp, ho, resolve, invoke, builtin, hs, hx, hrun, Result.andThen]
 exact hK2 _ _ (hK v' w' h1 h2)
structure FrI (B B0 G n : Nat) (F : Array Value) (T : List Int) (v : Value) (S : Nat → Bool) (w wr : World) : Prop where
 row : OwN wr B v T
 seen : BooB wr G n S n
 box : wr.heap[B0]? = some (.cells F 26 (0, 0))
 bel : Below B w wr
 big : B ≤ wr.heap.size
theorem FrI.below {B B0 G n : Nat} {F : Array Value} {T : List Int} {v : Value} {S : Nat → Bool} {w wr w' : World} (h : FrI B B0 G n F T v S w wr) (hb : Below wr.heap.size wr w') : FrI B B0 G n F T v S w w' :=
 ⟨own_below h.row hb, h.seen.of (hb.block G h.seen.lt), heap_keep h.box hb, h.bel.trans (hb.mono h.big), Nat.le_trans h.big hb.size⟩
theorem FrI.grown {B B0 G n : Nat} {F : Array Value} {T T' : List Int} {v v' : Value} {S : Nat → Bool} {w wr w' : World} (h : FrI B B0 G n F T v S w wr) (hg : wr.grownBy w' v.ownBlock) (hr : OwN w' B v' T') : FrI B B0 G n F T' v' S w w' := by
 have hGt : v.ownBlock ≠ some G := by obtain ⟨c, h1, _⟩ := h.seen; exact own_ne h.row h1 (by decide)
 have hBt : v.ownBlock ≠ some B0 := own_ne h.row h.box (by decide)
 exact ⟨hr, h.seen.of (hg.block G h.seen.lt (fun e => hGt e.symm)), (hg.block B0 (heap_lt h.box) (fun e => hBt e.symm)).trans h.box, h.bel.grown hg h.big (fun k e => own_lt h.row k e), Nat.le_trans h.big hg.size⟩
theorem FrI.seenAt {B B0 G n i : Nat} {F : Array Value} {T : List Int} {v : Value} {S : Nat → Bool} {w wr : World} (h : FrI B B0 G n F T v S w wr) (hG : B ≤ G) (h0 : B0 ≠ G) : FrI B B0 G n F T v (updB S i) w (wr.setCell ⟨G, i, none⟩ (.bool true)) := by
 have hGt : v.ownBlock ≠ some G := by obtain ⟨c, h1, _⟩ := h.seen; exact own_ne h.row h1 (by decide)
 exact ⟨own_of h.row fun b hb => Below.heap_setCell _ _ _ _ (fun e => hGt (by rw [hb, e])), h.seen.upd, (Below.heap_setCell _ _ _ _ h0).trans h.box, h.bel.setCell hG _, by simpa [World.setCell] using h.big⟩
def FromOut (f : FuI) (r : Int) (st : List Int) (B : Nat) (w : World) (e : Ending) (w' : World) : Prop := ∃ z : Bool, e = .returned (.bool z) ∧ (z = true ↔ ∃ i x, f.code[i]? = some x ∧ r ∈ usesI x ∧ PR f r st i) ∧ Below B w w' ∧ w.heap.size ≤ w'.heap.size
set_option maxHeartbeats 16000000 in
set_option maxRecDepth 100000 in
theorem from_any (f : FuI) (fa fb fd fe ov : Value) (st : List Int) (r : Int) (B : Nat) (w : World) (h : Hid (FuV (fun b => b < B) w f fa fb fd fe)) (hB : Hid (B ≤ w.heap.size)) (hrl : Hid (f.rows.length ≤ 1048576)) (hnr : Hid (f.code.length * (f.rows.length + 3) ≤ 1048576)) (hst : Hid (st.length ≤ 1048576)) (ha : Hid (∀ x ∈ f.code, x.args.length * 8 ≤ 140737488355328 ∧ (usesI x).length * 8 ≤ 140737488355328)) (hov : Hid (OwN w B ov st)) :
  Calls Try.prog 33 #[fuL fa fb f.ret fd fe, ov, .int .i64 r] w fun e w' => FromOut f r st B w e w' := by
 obtain ⟨FA, ac, hFA⟩ := h.out.a.shape
 subst hFA
 obtain ⟨FB, bc, hFB⟩ := h.out.b.shape
 subst hFB
 obtain ⟨D, dcap, hD⟩ := h.out.d.shape
 subst hD
 obtain ⟨E, ecap, hE⟩ := h.out.e.shape
 subst hE
 obtain ⟨n, hn⟩ : ∃ n, f.code.length = n := ⟨_, rfl⟩
 have HN := lhid hn
 have hf2 := h.out
 have hnr2 := hnr.out
 have hdl := h.out.d.len
 rw [hn] at hnr2 hdl hf2 ⊢
 have HFU := lhid hf2
 clear hn hf2 h hnr
 obtain ⟨SA, sc, hsv⟩ := own_shape hov.out
 subst hsv
 have hmk := make_bools n hdl
 go_enter Try.func33, Try.ntmps33
 go_wp2_with fail
 generalize hW : World.alloc _ _ = w1
 obtain ⟨B0, hB0⟩ : ∃ B0, B0 = w.heap.size := ⟨_, rfl⟩
 obtain ⟨w0, hw0⟩ : ∃ w0, w0 = w.alloc (.cells #[.slice FA f.regs.length ac, .slice FB f.params.length bc, .int .i64 f.ret, .slice D n dcap, .slice E f.rows.length ecap] 26) := ⟨_, rfl⟩
 rw [← hw0] at hW
 have hb0 : Below w.heap.size w w0 := by rw [hw0]; exact (Below.refl _ _).alloc (Nat.le_refl _) _
 have hF0 : FBox w0 B0 (.slice FA f.regs.length ac) (.slice FB f.params.length bc) f.ret (.slice D n dcap) (.slice E f.rows.length ecap) := by rw [hw0, hB0]; exact heap_alloc_new w _
 have hs0 : w0.heap.size = B0 + 1 := by rw [hw0, hB0]; simp
 have hb1 : Below w0.heap.size w0 w1 := by rw [← hW]; exact (Below.refl _ _).alloc (Nat.le_refl _) _
 have hS1 : BooB w1 (B0 + 1) n (fun _ => false) n := by
  have h9 := BooB.made w0 n (fun _ => false)
  rw [hW, hs0] at h9
  obtain ⟨cc, h1, h2, h3⟩ := h9
  refine ⟨cc, h1, h2, fun j hj => ⟨false, ?_, fun _ => rfl⟩⟩
  have h4 := heap_alloc_new w0 (.cells (madeCells #[.bool false] n) 4)
  rw [hW, hs0, h1] at h4
  injection h4 with h4
  injection h4 with h4
  rw [h4]
  exact made_at0 _ _ _ _ hj (by rw [show j % (#[Value.bool false] : Array Value).size = 0 from Nat.mod_one j]; rfl)
 have hbw : Below w.heap.size w w1 := hb0.trans (hb1.mono hb0.size)
 have HI1 : Hid (FrI B B0 (B0 + 1) n #[.slice FA f.regs.length ac, .slice FB f.params.length bc, .int .i64 f.ret, .slice D n dcap, .slice E f.rows.length ecap] st (.slice SA st.length sc) (fun _ => false) w w1) := lhid ⟨own_below hov.out hbw, hS1, heap_keep hF0 hb1, hbw.mono hB.out, Nat.le_trans hB.out hbw.size⟩
 rw [show w.heap.size + 1 = B0 + 1 by rw [hB0]]
 rw [← hB0]
 have HNUM : Hid (B ≤ B0 ∧ B0 = w.heap.size) := lhid ⟨by rw [hB0]; exact hB.out, hB0⟩
 have HD1 := lhid (Dfs.begin f r st)
 obtain ⟨K, hK⟩ : ∃ K, f.rows.length + 3 = K := ⟨_, rfl⟩
 have HK := lhid hK
 have HM1 : Hid (cntF n (fun _ => false) * K + st.length ≤ 2097152) := lhid (by
  have h1 := Nat.mul_le_mul_right K (cntF_le n (fun _ => false))
  rw [hK] at hnr2
  have := hst.out
  omega)
 have HSZ : Hid (w.heap.size ≤ w1.heap.size) := lhid hbw.size
 clear hW hw0 hb0 hF0 hs0 hb1 hS1 hbw hB0 hK hnr2 hmk hdl
 go_loopg [1] (cntF n (fun _ => false) * K + st.length) (fun g v wq => ∃ (S : Nat → Bool) (T : List Int) (A : Option Addr) (q : Nat), g = cntF n S * K + T.length ∧ v = .slice A T.length q ∧ Hid (cntF n S * K + T.length ≤ 2097152) ∧ Hid (FrI B B0 (B0 + 1) n #[.slice FA f.regs.length ac, .slice FB f.params.length bc, .int .i64 f.ret, .slice D n dcap, .slice E f.rows.length ecap] T (.slice A T.length q) S w wq) ∧ Hid (Dfs f r st S T) ∧ Hid (w.heap.size ≤ wq.heap.size))
 case atStart => exact ⟨fun _ => false, st, SA, sc, rfl, rfl, HM1, HI1, HD1, HSZ⟩
 case round =>
  clear HI1 HD1 HM1 HSZ hov
  obtain ⟨S, T, A, q, rfl, rfl, HM, HI, HD, HSZ⟩ := hrel
  rcases List.eq_nil_or_concat T with rfl | ⟨T', t, hTc⟩
  ·have HR : Hid (¬ ∃ i x, f.code[i]? = some x ∧ r ∈ usesI x ∧ PR f r st i) := lhid (fun ⟨i, x, hx, hr, hp⟩ => HD.out.done i x hx hr hp)
   go_wp2_with fail
   go_ret
   exact ⟨false, rfl, ⟨fun h => (by cases h), fun h => absurd h HR.out⟩, HI.out.bel, HSZ.out⟩
  ·rw [List.concat_eq_append] at hTc
   subst hTc
   have ho := HI.out.row
   obtain ⟨g, cap, hvg, hgB, hgw⟩ := own_last ho
   have hA : A = some ⟨g, 0, none⟩ ∧ cap = q := by injection hvg with e1 e2 e3; exact ⟨e1, e3.symm⟩
   obtain ⟨rfl, rfl⟩ := hA
   have hln : (T' ++ [t]).length = T'.length + 1 := by simp
   rw [hln] at ho
   obtain ⟨ho3, c3, hcap⟩ := own_init ho
   obtain ⟨N, hN⟩ : ∃ N, T'.length = N := ⟨_, rfl⟩
   obtain ⟨M, hMe⟩ : ∃ M, N + 1 = M := ⟨_, rfl⟩
   rw [hln, hN, hMe]
   rw [hN] at ho3 c3 hcap
   have HI3 := lhid (show FrI B B0 (B0 + 1) n #[.slice FA f.regs.length ac, .slice FB f.params.length bc, .int .i64 f.ret, .slice D n dcap, .slice E f.rows.length ecap] T' (.slice (some ⟨g, 0, none⟩) N cap) S w wr from ⟨ho3, HI.out.seen, HI.out.box, HI.out.bel, HI.out.big⟩)
   have hNM : N ≤ 2097152 := by have := HM.out; rw [hln, hN] at this; omega
   have HNM : Hid (T'.length = N ∧ N + 1 = M) := lhid ⟨hN, hMe⟩
   have hw1' : wrap64 ((M : Int) - 1) = (N : Int) := by rw [IntWalk.wrap64_in _ (by omega)]; omega
   have k0 : (0 : Int) < M := by omega
   have k1 : (N : Int) < M := by omega
   have k2 : (N : Int) ≤ cap := by omega
   have k3' : ¬ cap = 0 := by omega
   have p3 := heap_cell (i := 3) HI.out.box rfl
   obtain ⟨q, hqc⟩ : ∃ q, q = cap := ⟨_, rfl⟩
   subst hqc
   clear ho hvg hln hN hMe ho3 hcap hgB hgw
   by_cases hneg : t < 0
   ·have HSK : Hid (∀ j : Nat, t = j → j < f.code.length → S j = true) := lhid (fun j e hj => by omega)
    go_wp2_with fail
    go_roundg (cntF n S * K + T'.length)
    case measure => simp
    case rel => exact ⟨S, T', some ⟨g, 0, none⟩, q, rfl, by rw [HNM.out.1], lhid (by have := HM.out; simp at this; omega), lhid (by rw [HNM.out.1]; exact HI3.out), lhid (HD.out.skip HSK.out), HSZ⟩
   ·obtain ⟨i, hi⟩ : ∃ i : Nat, t = i := ⟨t.toNat, by omega⟩
    subst hi
    have k7 : ¬ (i : Int) < 0 := by omega
    clear hneg
    by_cases hin : i < n
    ·have k5 : (i : Int) < n := by omega
     have k6 : ¬ (n : Int) ≤ i := by omega
     have c4 := HI.out.seen.at' hin hin
     obtain ⟨x, hx⟩ : ∃ x, f.code[i]? = some x := ⟨_, List.getElem?_eq_getElem (by have := HN.out; omega)⟩
     cases hsi : S i with
     | true =>
      rw [hsi] at c4
      have HSK : Hid (∀ j : Nat, (i : Int) = j → j < f.code.length → S j = true) := lhid (fun j e _ => by rw [show j = i by omega]; exact hsi)
      clear hsi
      go_wp2_with fail
      go_roundg (cntF n S * K + T'.length)
      case measure => simp
      case rel => exact ⟨S, T', some ⟨g, 0, none⟩, q, rfl, by rw [HNM.out.1], lhid (by have := HM.out; simp at this; omega), lhid (by rw [HNM.out.1]; exact HI3.out), lhid (HD.out.skip HSK.out), HSZ⟩
     | false =>
      rw [hsi] at c4
      have HX := lhid hx
      have HSI := lhid hsi
      have ks := HI.out.seen.fz i
      have kl := HI.out.seen.lt
      go_upto_region 7 with fail
      generalize hW : World.setCell _ _ _ = w7
      have HI7 := lhid (HI3.out.seenAt (i := i) (by have := HNUM.out; omega) (by omega))
      rw [hW] at HI7
      have HSZ7 : Hid (w.heap.size ≤ w7.heap.size) := lhid (by rw [← hW]; simpa [World.setCell] using HSZ.out)
      clear hW c3 c4 ks kl p3 hw1' k0 k1 k2 k3' k5 k6 k7 hx hsi
      have HBq7 : Hid (Below B w w7) := lhid HI7.out.bel
      have HU7 := lhid (HFU.out.kept (fun b hb _ => HBq7.out.block b hb))
      obtain ⟨p0, p1, p2, p3, p4⟩ := FBox.cells HI7.out.box
      obtain ⟨gc, o, v, hD, hgc, hva, c0, c1, c2, c3, c4, c5, c6, c7, c8⟩ := in_cells HU7.out.d HX.out
      subst hD
      obtain ⟨VA, vc, hv0⟩ := hva.shape
      subst hv0
      have HVA7 := lhid hva
      have hargs := ha.out x (List.mem_of_getElem? HX.out)
      have HAR := lhid hargs
      have hii : (i : Int) < n := by omega
      obtain ⟨us, hus⟩ : ∃ us, usesI x = us := ⟨_, rfl⟩
      have HUS := lhid hus
      clear hva hargs hus
      go_wp2_with fail
      with_reducible refine (ruses_w x (.slice VA x.args.length vc) us w7 HVA7 (lhid HAR.out.1) HUS).mono ?_
      rintro e w8 ⟨vu, rfl, ho8, hb8⟩
      have HUR : Hid (RdX Tru 1 NuE w8 vu us) := lhid ((OwN.rd ho8 (by have h1 := HAR.out.2; rw [HUS.out] at h1; omega)).any fun _ _ => trivial)
      have HI8 := lhid (HI7.out.below hb8)
      have HSZ8 : Hid (w.heap.size ≤ w8.heap.size) := lhid (Nat.le_trans HSZ7.out (Below.size hb8))
      have HBq8 : Hid (Below B w w8) := lhid HI8.out.bel
      have HU8 := lhid (HFU.out.kept (fun b hb _ => HBq8.out.block b hb))
      clear ho8 hb8 p0 p1 p2 p3 p4 c0 c1 c2 c3 c4 c5 c6 c7 c8 HI7 HU7 HVA7
      obtain ⟨p0, p1, p2, p3, p4⟩ := FBox.cells HI8.out.box
      by_cases hru : r ∈ us
      ·have HRU : Hid (decide (r ∈ us) = true) := lhid (by simpa using hru)
       have HYES : Hid (∃ i x, f.code[i]? = some x ∧ r ∈ usesI x ∧ PR f r st i) := lhid ⟨i, x, HX.out, by rw [HUS.out]; exact hru, HD.out.opn i (by simp) i rfl (by have := HN.out; omega)⟩
       clear hru
       go_wp2_with fail
       with_reducible refine (lin_r r vu us true w8 HUR HRU).mono ?_
       rintro e _ ⟨rfl, rfl⟩
       go_wp2_with fail
       go_ret
       exact ⟨true, rfl, ⟨fun _ => HYES.out, fun _ => rfl⟩, HI8.out.bel, HSZ8.out⟩
      ·have HRU : Hid (decide (r ∈ us) = false) := lhid (by simpa using hru)
       have HNR : Hid (r ∉ usesI x) := lhid (by rw [HUS.out]; exact hru)
       obtain ⟨cl, hcl⟩ : ∃ cl, caughtL f i = cl := ⟨_, rfl⟩
       have HCL := lhid hcl
       have HCLn : Hid (cl.length ≤ f.rows.length) := lhid (by rw [← hcl]; exact caughtL_len f i)
       clear hru hcl
       go_wp2_with fail
       with_reducible refine (lin_r r vu us false w8 HUR HRU).mono ?_
       rintro e _ ⟨rfl, rfl⟩
       go_wp2_with fail
       with_reducible refine (rcaught_w f n HN.out cl _ _ _ _ i w8 HU8 (lhid (by have := hrl.out; omega)) HCL).mono ?_
       rintro e w9 ⟨vc9, rfl, hoc, hb9⟩
       have HI9 := lhid (HI8.out.below hb9)
       have HSZ9 : Hid (w.heap.size ≤ w9.heap.size) := lhid (Nat.le_trans HSZ8.out (Below.size hb9))
       have HBq9 : Hid (Below B w w9) := lhid HI9.out.bel
       have HU9 := lhid (HFU.out.kept (fun b hb _ => HBq9.out.block b hb))
       have HOC : Hid (OwN w9 B vc9 cl) := lhid (own_base hoc HI8.out.big)
       clear hoc hb9 HI8 HU8 p0 p1 p2 p3 p4
       go_wp2_with (at_builtin; refine wpList_append_grow rfl (.tmp 52) (.tmp 55) rfl B (.slice (some ⟨g, 0, none⟩) N q) vc9 T' cl rfl rfl HI9.out.row HOC.out HI9.out.big ?a2 ?_)
       case a2 => have h1 := HM.out; have h2 := HCLn.out; have h3 := hrl.out; simp at h1; omega
       intro v' w10 ho10 hg10
       obtain ⟨A10, q10, rfl⟩ := own_shape ho10
       obtain ⟨C, hC⟩ : ∃ C, T' ++ cl = C := ⟨_, rfl⟩
       have hCl : T'.length + cl.length = C.length := by rw [← hC]; simp
       have hTCl : (T' ++ cl).length = C.length := by rw [hC]
       rw [hTCl, hC] at ho10
       rw [hTCl]
       have HI10 := lhid (HI9.out.grown hg10 ho10)
       have HSZ10 : Hid (w.heap.size ≤ w10.heap.size) := lhid (Nat.le_trans HSZ9.out hg10.size)
       have HBq10 : Hid (Below B w w10) := lhid HI10.out.bel
       have HU10 := lhid (HFU.out.kept (fun b hb _ => HBq10.out.block b hb))
       clear ho10 hg10 HI9 HU9 HOC
       obtain ⟨p0, p1, p2, p3, p4⟩ := FBox.cells HI10.out.box
       obtain ⟨gc2, o2, v2, hD2, hgc2, hva2, c0, c1, c2, c3, c4, c5, c6, c7, c8⟩ := in_cells HU10.out.d HX.out
       injection hD2 with hD2
       injection hD2 with hD2 hD3
       subst hD2 hD3
       obtain ⟨VB, vd, hv2⟩ := hva2.shape
       subst hv2
       obtain ⟨dx, hdx⟩ : ∃ dx, defI x = dx := ⟨_, rfl⟩
       have HDX := lhid hdx
       have HCC := lhid hC
       clear hva2 hdx hTCl hC
       go_wp2_with fail
       with_reducible refine (rdef_w x (.slice VB x.args.length vd) w10 dx HDX).mono ?_
       rintro e w11 ⟨rfl, hb11⟩
       have HI11 := lhid (HI10.out.below hb11)
       have HSZ11 : Hid (w.heap.size ≤ w11.heap.size) := lhid (Nat.le_trans HSZ10.out (Below.size hb11))
       have HBq11 : Hid (Below B w w11) := lhid HI11.out.bel
       have HU11 := lhid (HFU.out.kept (fun b hb _ => HBq11.out.block b hb))
       clear hb11 HI10 HU10 p0 p1 p2 p3 p4 c0 c1 c2 c3 c4 c5 c6 c7 c8
       have HLS : Hid (cntF n (updB S i) * K + (T' ++ sucL f r i x).length + 1 ≤ cntF n S * K + (T' ++ [(i : Int)]).length) := lhid (by rw [← HK.out]; exact Dfs.less hin HSI.out)
       by_cases hdr : dx = r
       ·have hdb : (dx != r) = false := by rw [hdr]; simp
        have HSUC : Hid (T' ++ sucL f r i x = C) := lhid (by unfold sucL; rw [if_pos (HDX.out.trans hdr), List.append_nil, HCL.out, HCC.out])
        have HDN := lhid (HD.out.visit HX.out HNR.out)
        rw [HSUC.out] at HDN HLS
        clear hdr
        go_wp2_with fail
        go_roundg (cntF n (updB S i) * K + C.length)
        case measure => have := HLS.out; omega
        case rel => exact ⟨updB S i, C, A10, q10, rfl, by first | rfl | rw [hCl], lhid (by have h1 := HLS.out; have h2 := HM.out; omega), HI11, HDN, HSZ11⟩
       ·have hdb : (dx != r) = true := by simpa using hdr
        obtain ⟨p0, p1, p2, p3, p4⟩ := FBox.cells HI11.out.box
        obtain ⟨nl, hnl⟩ : ∃ nl, nextL f i = nl := ⟨_, rfl⟩
        have HNL := lhid hnl
        have HSUC : Hid (T' ++ sucL f r i x = C ++ nl) := lhid (by unfold sucL; rw [if_neg (fun e => hdr (HDX.out.symm.trans e)), HCL.out, hnl, ← HCC.out, List.append_assoc])
        have HDN := lhid (HD.out.visit HX.out HNR.out)
        rw [HSUC.out] at HDN HLS
        clear hdr hnl
        go_wp2_with fail
        with_reducible refine (rnext_w f n HN.out nl _ _ _ _ i w11 HU11 HNL).mono ?_
        rintro e w12 ⟨vn, rfl, hon, hb12⟩
        have HI12 := lhid (HI11.out.below hb12)
        have HSZ12 : Hid (w.heap.size ≤ w12.heap.size) := lhid (Nat.le_trans HSZ11.out (Below.size hb12))
        have HBq12 : Hid (Below B w w12) := lhid HI12.out.bel
        have HU12 := lhid (HFU.out.kept (fun b hb _ => HBq12.out.block b hb))
        have HON : Hid (OwN w12 B vn nl) := lhid (own_base hon HI11.out.big)
        clear hon hb12 HI11 HU11 p0 p1 p2 p3 p4
        go_wp2_with (at_builtin; refine wpList_append_grow rfl (.tmp 65) (.tmp 68) rfl B (.slice A10 C.length q10) vn C nl rfl rfl HI12.out.row HON.out HI12.out.big ?b2 ?_)
        case b2 => have h1 := HM.out; have h2 := HLS.out; simp at h1 h2; omega
        intro v' w13 ho13 hg13
        obtain ⟨A13, q13, rfl⟩ := own_shape ho13
        obtain ⟨C2, hC2⟩ : ∃ C2, C ++ nl = C2 := ⟨_, rfl⟩
        have hCl2 : C.length + nl.length = C2.length := by rw [← hC2]; simp
        have hTCl2 : (C ++ nl).length = C2.length := by rw [hC2]
        rw [hTCl2, hC2] at ho13
        rw [hTCl2]
        rw [hC2] at HDN HLS
        have HI13 := lhid (HI12.out.grown hg13 ho13)
        have HSZ13 : Hid (w.heap.size ≤ w13.heap.size) := lhid (Nat.le_trans HSZ12.out hg13.size)
        clear ho13 hg13 HI12 HON hTCl2 hC2
        go_wp2_with fail
        go_roundg (cntF n (updB S i) * K + C2.length)
        case measure => have := HLS.out; omega
        case rel => exact ⟨updB S i, C2, A13, q13, rfl, by first | rfl | rw [hCl2], lhid (by have h1 := HLS.out; have h2 := HM.out; omega), HI13, HDN, HSZ13⟩
    ·have k5 : ¬ (i : Int) < n := by omega
     have k6 : (n : Int) ≤ i := by omega
     have HSK : Hid (∀ j : Nat, (i : Int) = j → j < f.code.length → S j = true) := lhid (fun j e hj => by have := HN.out; omega)
     go_wp2_with fail
     go_roundg (cntF n S * K + T'.length)
     case measure => simp
     case rel => exact ⟨S, T', some ⟨g, 0, none⟩, q, rfl, by rw [HNM.out.1], lhid (by have := HM.out; simp at this; omega), lhid (by rw [HNM.out.1]; exact HI3.out), lhid (HD.out.skip HSK.out), HSZ⟩
end Go.Proofs.Ytoommeiiadobfaa
/- Lists of lists of the call's own. -/
namespace Go.Proofs.Ytoommeiiadobfaa
open Go.RowKit Go
set_option linter.unusedVariables false
set_option linter.unusedSimpArgs false
def OwLL (w : World) (B : Nat) (v : Value) (L : List (List Int)) : Prop := ∃ vs : List Value, w.ownsRow B 22 1 v L.length vs ∧ (∀ (i : Nat) l, L[i]? = some l → ∃ u, vs[i]? = some u ∧ OwN w B u l) ∧ (∀ (i j : Nat) u u', vs[i]? = some u → vs[j]? = some u' → i ≠ j → ∀ b, u.ownBlock = some b → u'.ownBlock ≠ some b)
theorem oll_ne {w : World} {B B' n : Nat} {v u : Value} {vs : List Value} {l : List Int} (h : w.ownsRow B 22 1 v n vs) (h2 : OwN w B' u l) : ∀ g, v.ownBlock = some g → u.ownBlock ≠ some g := by
 intro g hg
 rcases h.2 with ⟨rfl, _⟩ | ⟨g', cap, cur, rfl, _, hc, _⟩
 ·cases hg
 ·injection hg with hg
  subst hg
  exact own_ne h2 hc (by decide)
theorem OwLL.nil (w : World) (B : Nat) : OwLL w B (.slice none 0 0) [] := ⟨[], World.ownsRow_nil _ _ _ _, fun i l h => by simp at h, fun i j u u' h => by simp at h⟩
theorem OwLL.shape {w : World} {B : Nat} {v : Value} {L : List (List Int)} (h : OwLL w B v L) : ∃ A c, v = .slice A L.length c := by
 obtain ⟨vs, h1, _⟩ := h
 exact own_shape h1
theorem OwLL.below {w w' : World} {B : Nat} {v : Value} {L : List (List Int)} (h : OwLL w B v L) (hb : Below w.heap.size w w') : OwLL w' B v L := by
 obtain ⟨vs, h1, h2, h3⟩ := h
 refine ⟨vs, own_below h1 hb, fun i l hi => ?_, h3⟩
 obtain ⟨u, h4, h5⟩ := h2 i l hi
 exact ⟨u, h4, own_below h5 hb⟩
theorem OwLL.base {w : World} {B B' : Nat} {v : Value} {L : List (List Int)} (h : OwLL w B v L) (hB : B' ≤ B) : OwLL w B' v L := by
 obtain ⟨vs, h1, h2, h3⟩ := h
 refine ⟨vs, own_base h1 hB, fun i l hi => ?_, h3⟩
 obtain ⟨u, h4, h5⟩ := h2 i l hi
 exact ⟨u, h4, own_base h5 hB⟩
theorem OwLL.ch {w w' : World} {B : Nat} {v : Value} {L : List (List Int)} {X : Nat → Prop} (h : OwLL w B v L) (hc : Ch X w w') (hX : ∀ k, B ≤ k → k < w.heap.size → ∀ c T, w.heap[k]? = some (.cells c T (0, 0)) → (T = 22 ∨ T = 3) → ¬ X k) : OwLL w' B v L := by
 obtain ⟨vs, h1, h2, h3⟩ := h
 have key : ∀ {e n : Nat} {u : Value} {xs : List Value}, w.ownsRow B e 1 u n xs → (e = 22 ∨ e = 3) → w'.ownsRow B e 1 u n xs := by
  intro e n u xs ho he
  refine own_of ho fun b hb => ?_
  rcases ho.2 with ⟨rfl, _⟩ | ⟨g', cap, cur, rfl, hB', hg, _⟩
  ·cases hb
  ·injection hb with hb
   subst hb
   exact hc.block _ (heap_lt hg) (hX _ hB' (heap_lt hg) _ _ hg he)
 refine ⟨vs, key h1 (.inl rfl), fun i l hi => ?_, h3⟩
 obtain ⟨u, h4, h5⟩ := h2 i l hi
 exact ⟨u, h4, key h5 (.inr rfl)⟩
theorem OwLL.at' {w : World} {B i : Nat} {A : Option Addr} {n cap : Nat} {L : List (List Int)} {l : List Int} (h : OwLL w B (.slice A n cap) L) (hi : L[i]? = some l) : ∃ g c UA uc, A = some ⟨g, 0, none⟩ ∧ B ≤ g ∧ w.heap[g]? = some (.cells c 22 (0, 0)) ∧ w.cell? ⟨g, i, none⟩ = some (.slice UA l.length uc) ∧ OwN w B (.slice UA l.length uc) l := by
 obtain ⟨vs, h1, h2, h3⟩ := h
 obtain ⟨u, h4, h5⟩ := h2 i l hi
 obtain ⟨UA, uc, rfl⟩ := own_shape h5
 have hl := (List.getElem?_eq_some_iff.1 hi).1
 rcases h1.2 with ⟨_, h6⟩ | ⟨g, cp, cur, h6, hB, hg, _⟩
 ·omega
 ·injection h6 with e1 e2 e3
  subst e1 e2 e3
  refine ⟨g, cur, UA, uc, rfl, hB, hg, ?_, h5⟩
  rw [h1.cellAt i (by omega)]
  exact h4
theorem OwLL.set {w w4 : World} {B g i n cap : Nat} {L : List (List Int)} {l l' : List Int} {UA : Option Addr} {un uc : Nat} {u' : Value} (h : OwLL w B (.slice (some ⟨g, 0, none⟩) n cap) L) (hi : L[i]? = some l) (hu : w.cell? ⟨g, i, none⟩ = some (.slice UA un uc)) (hc : Ch (fun k => (Value.slice UA un uc).ownBlock = some k) w w4) (ho : OwN w4 B u' l') (hf : ∀ b, u'.ownBlock = some b → (Value.slice UA un uc).ownBlock = some b ∨ w.heap.size ≤ b) : OwLL (w4.setCell ⟨g, i, none⟩ u') B (.slice (some ⟨g, 0, none⟩) n cap) (L.set i l') := by
 obtain ⟨vs, h1, h2, h3⟩ := h
 have hnl : n = L.length := by
  rcases h1.2 with ⟨h6, _⟩ | ⟨g', cp, cur, h6, _⟩
  ·cases h6
  ·injection h6 with e1 e2 e3
 subst hnl
 obtain ⟨u, h4, h5⟩ := h2 i l hi
 have hl := (List.getElem?_eq_some_iff.1 hi).1
 have hlv := (List.getElem?_eq_some_iff.1 h4).1
 have e : u = .slice UA un uc := by
  have h6 := h1.cellAt i (by omega)
  rw [hu, h4] at h6
  injection h6 with h6
  exact h6.symm
 subst e
 have hg1 : w4.ownsRow B 22 1 (.slice (some ⟨g, 0, none⟩) L.length cap) L.length vs := own_of h1 fun b hb => hc.block b ((h1.lt b hb).2) (fun e => oll_ne h1 h5 b hb e)
 have hgg : (Value.slice (some ⟨g, 0, none⟩) L.length cap).ownBlock = some g := rfl
 have hs := (hg1.stored i u').1
 refine ⟨vs.set i u', by rw [List.length_set]; exact hs, fun j m hj => ?_, fun a b x y ha hb hab bb hx => ?_⟩
 ·by_cases e : i = j
  ·subst e
   rw [List.getElem?_set_self hl] at hj
   injection hj with hj
   subst hj
   exact ⟨u', List.getElem?_set_self hlv, own_of ho fun b hb => Below.heap_setCell _ _ _ _ (fun e => oll_ne hg1 ho g hgg (by rw [hb, e]))⟩
  ·rw [List.getElem?_set_ne e] at hj
   obtain ⟨x, h6, h7⟩ := h2 j m hj
   refine ⟨x, by rw [List.getElem?_set_ne e]; exact h6, ?_⟩
   have h8 : OwN w4 B x m := own_of h7 fun b hb => hc.block b ((h7.lt b hb).2) (fun e2 => h3 i j _ x h4 h6 e b e2 hb)
   exact own_of h8 fun b hb => Below.heap_setCell _ _ _ _ (fun e => oll_ne hg1 h8 g hgg (by rw [hb, e]))
 ·have old : ∀ j x, j ≠ i → vs[j]? = some x → ∀ b, x.ownBlock = some b → b < w.heap.size ∧ (Value.slice UA un uc).ownBlock ≠ some b := fun j x hj hx b hb => by
   have hjl : j < L.length := by
    have h6 := (List.getElem?_eq_some_iff.1 hx).1
    have h7 := h1.1
    omega
   obtain ⟨x', h6, h7⟩ := h2 j _ (List.getElem?_eq_getElem hjl)
   rw [hx] at h6
   injection h6 with h6
   subst h6
   exact ⟨(h7.lt b hb).2, fun e => h3 j i x _ hx h4 hj b hb e⟩
  by_cases ea : i = a
  ·subst ea
   rw [List.getElem?_set_self hlv] at ha
   injection ha with ha
   subst ha
   rw [List.getElem?_set_ne hab] at hb
   intro hy
   obtain ⟨h6, h7⟩ := old b y (fun e => hab e.symm) hb bb hy
   rcases hf bb hx with h8 | h8
   ·exact h7 h8
   ·omega
  ·rw [List.getElem?_set_ne ea] at ha
   by_cases eb : i = b
   ·subst eb
    rw [List.getElem?_set_self hlv] at hb
    injection hb with hb
    subst hb
    intro hy
    obtain ⟨h6, h7⟩ := old a x (fun e => ea e.symm) ha bb hx
    rcases hf bb hy with h8 | h8
    ·exact h7 h8
    ·omega
   ·rw [List.getElem?_set_ne eb] at hb
    exact h3 a b x y ha hb hab bb hx
theorem OwLL.push {w w4 : World} {B : Nat} {v v' : Value} {L : List (List Int)} {vs : List Value} (h : w.ownsRow B 22 1 v L.length vs ∧ (∀ (i : Nat) l, L[i]? = some l → ∃ u, vs[i]? = some u ∧ OwN w B u l) ∧ (∀ (i j : Nat) u u', vs[i]? = some u → vs[j]? = some u' → i ≠ j → ∀ b, u.ownBlock = some b → u'.ownBlock ≠ some b)) (hg : w.grownBy w4 v.ownBlock) (ho : w4.ownsRow B 22 1 v' (L.length + 1) (vs ++ [.slice none 0 0])) : OwLL w4 B v' (L ++ [[]]) := by
 obtain ⟨h1, h2, h3⟩ := h
 have hvl : vs.length = L.length := by have := h1.1; omega
 refine ⟨vs ++ [.slice none 0 0], by rw [List.length_append]; exact ho, fun i l hi => ?_, fun i j u u' hi hj hij b hb => ?_⟩
 ·by_cases e : i < L.length
  ·rw [List.getElem?_append_left e] at hi
   obtain ⟨u, h4, h5⟩ := h2 i l hi
   refine ⟨u, by rw [List.getElem?_append_left (by omega)]; exact h4, own_of h5 fun b hb => hg.block b ((h5.lt b hb).2) (fun e2 => oll_ne h1 h5 b e2.symm hb)⟩
  ·have hl := (List.getElem?_eq_some_iff.1 hi).1
   have hil : i = L.length := by simp at hl; omega
   subst hil
   rw [List.getElem?_append_right (Nat.le_refl _)] at hi
   simp at hi
   subst hi
   exact ⟨.slice none 0 0, by rw [List.getElem?_append_right (by omega), hvl]; simp, World.ownsRow_nil _ _ _ _⟩
 ·have nn : ∀ (k : Nat) (x : Value), (vs ++ [Value.slice none 0 0])[k]? = some x → x.ownBlock = some b → vs[k]? = some x := by
   intro k x hk hx
   by_cases e : k < vs.length
   ·rwa [List.getElem?_append_left e] at hk
   ·rw [List.getElem?_append_right (by omega)] at hk
    have hl := (List.getElem?_eq_some_iff.1 hk).1
    have : k - vs.length = 0 := by simp at hl; omega
    rw [this] at hk
    simp at hk
    subst hk
    cases hx
  intro hy
  exact h3 i j u u' (nn i u hi hb) (nn j u' hj hy) hij b hb hy
theorem OwLL.made {w : World} {B g n : Nat} (h : w.heap[g]? = some (.cells (madeCells #[.slice none 0 0] n) 22 (0, 0))) (hB : B ≤ g) (hn : n ≤ maxLen) : OwLL w B (.slice (some ⟨g, 0, none⟩) n n) (List.replicate n []) := by
 have hm : (madeCells #[Value.slice none 0 0] n).toList = List.replicate n (.slice none 0 0) := by
  apply List.ext_getElem?
  intro j
  by_cases hj : j < n
  ·rw [Array.getElem?_toList, made_at0 _ _ _ (.slice none 0 0) hj (by rw [show j % (#[Value.slice none 0 0] : Array Value).size = 0 from Nat.mod_one j]; rfl), List.getElem?_replicate, if_pos hj]
  ·rw [Array.getElem?_toList, Array.getElem?_eq_none (by rw [size_madeCells]; omega)]
   exact (List.getElem?_eq_none_iff.2 (by simp; omega)).symm
 refine ⟨List.replicate n (.slice none 0 0), ⟨by simp, .inr ⟨g, n, _, by simp, hB, h, by simp, hn, by rw [size_madeCells]; simp, ?_⟩⟩, fun i l hi => ?_, fun i j u u' hi hj hij b hb => ?_⟩
 ·rw [hm, List.length_replicate, Nat.mul_one, List.take_of_length_le (by simp)]
 ·rw [List.getElem?_replicate] at hi
  split at hi
  ·injection hi with hi
   subst hi
   exact ⟨_, by rw [List.getElem?_replicate, if_pos (by assumption)], World.ownsRow_nil _ _ _ _⟩
  ·cases hi
 ·rw [List.getElem?_replicate] at hi
  split at hi
  ·injection hi with hi
   subst hi
   cases hb
  ·cases hi
theorem OwLL.rd {w : World} {B : Nat} {v : Value} {L : List (List Int)} (h : OwLL w B v L) (hl : L.length ≤ 140737488355328) (hi : ∀ l ∈ L, l.length ≤ 140737488355328) : RdX Tru 1 (LsE Tru) w v L := by
 obtain ⟨A, c, hv⟩ := h.shape
 subst hv
 have hnil : A = none → c = 0 := by
  intro e
  obtain ⟨vs, h1, _⟩ := h
  rcases h1.2 with ⟨h2, _⟩ | ⟨g, cap, cur, h2, _⟩
  ·injection h2
  ·injection h2 with h2
   rw [e] at h2
   cases h2
 refine ⟨A, c, rfl, hnil, hl, fun i l hil => ?_⟩
 obtain ⟨g, cc, UA, uc, rfl, hB, hg, h1, h2⟩ := h.at' hil
 refine ⟨g, 0, [.slice UA l.length uc], rfl, trivial, ⟨_, rfl, (OwN.rd h2 (hi l (List.mem_of_getElem? hil))).any fun _ _ => trivial⟩, fun j u hj => ?_⟩
 cases j with
 | succ j => simp at hj
 | zero =>
  simp at hj
  subst hj
  simpa using h1
end Go.Proofs.Ytoommeiiadobfaa
