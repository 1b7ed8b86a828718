/- catchers: the iterator's contract, for a range over it. -/
import Derived.Test.YtbkeneadoccodaaM10
import Derived.RangeFuncNested
import Derived.RangeFuncBound
import Derived.RangeFuncCalls
import Derived.RangeFuncLeaves
import Derived.OwnWalkIn
import Derived.TacticsInMore
import Derived.LoopNIn
import Derived.LoopIn
namespace Go.Proofs.Ytbkeneadoccodaa
open Go.RowKit Go Go.Maps
attribute [local go_sem] Oper.semAt_some
set_option linter.unusedVariables false
set_option linter.unusedSimpArgs false
def aboutB (r : RwI) (i : Int) : Bool := decide (r.fr ≤ i) && decide (i < r.too)
def catL : List RwI → Int → List Int
 | [], _ => []
 | r :: l, i => if aboutB r i then r.at_ :: (if r.cls = [] then [] else catL l i) else catL l i
theorem catL_yes {r : RwI} {l : List RwI} {i : Int} (h : aboutB r i = true) : catL (r :: l) i = r.at_ :: (if r.cls = [] then [] else catL l i) := by
 show (if aboutB r i then _ else _) = _
 rw [if_pos h]
theorem catL_no {r : RwI} {l : List RwI} {i : Int} (h : aboutB r i = false) : catL (r :: l) i = catL l i := by
 show (if aboutB r i then _ else _) = _
 rw [h]
 rfl
abbrev CqT := { x : Int // -9223372036854775808 ≤ x ∧ x ≤ 9223372036854775807 }
abbrev cqL (l : List CqT) : List Int := l.map (fun x : CqT => x.1)
def cqE (x : CqT) : Array Value := #[.int .i64 x.1]
def RwN (rows : List RwI) : Prop := ∀ r ∈ rows, -9223372036854775808 ≤ r.at_ ∧ r.at_ ≤ 9223372036854775807
theorem catchers_c (A : Option Addr) (n cap : Nat) (i : Int) (w : World) : Calls Try.prog 101 #[.slice A n cap, .int .i64 i] w fun e w' => e = .returned (.func (.func 121) #[] #[.pointer (some ⟨w.heap.size, 0, none⟩), .pointer (some ⟨w.heap.size + 1, 0, none⟩)]) ∧ w' = (w.alloc (.cells #[.slice A n cap] 25)).alloc (.cells #[.int .i64 i] 3) := by
 go_enter Try.func101, Try.ntmps101
 go_wp2_with fail
 go_ret
 exact ⟨rfl, rfl⟩
def KpC (R : Nat → Prop) (p q : Nat) (W W' : World) : Prop := ∀ k, (k = p ∨ k = q ∨ R k ∨ ∃ cs fz, W.heap[k]? = some (.cells cs 52 fz)) → W'.heap[k]? = W.heap[k]?
theorem KpC.trans {A : Nat → Prop} {p q : Nat} {X Y Z : World} (h : KpC A p q X Y) (h' : KpC A p q Y Z) : KpC A p q X Z := fun k hk => by
 have h1 := h k hk
 refine (h' k ?_).trans h1
 rcases hk with e | e | e | ⟨cs, fz, e⟩
 ·exact .inl e
 ·exact .inr (.inl e)
 ·exact .inr (.inr (.inl e))
 ·exact .inr (.inr (.inr ⟨cs, fz, h1.trans e⟩))
theorem KpC.alloc (A : Nat → Prop) {p q : Nat} {W : World} (hp : p < W.heap.size) (hq : q < W.heap.size) (hA : ∀ k, A k → k < W.heap.size) (x : Obj) : KpC A p q W (W.alloc x) := fun k hk => by
 refine Below.heap_alloc _ _ _ ?_
 rcases hk with e | e | e | ⟨cs, fz, e⟩
 ·omega
 ·omega
 ·exact hA k e
 ·exact heap_lt e
set_option maxRecDepth 100000 in
set_option maxHeartbeats 4000000 in
theorem catchers1_in {P : Nat → Prop} (F : Fence) (n : Nat) (h7 : F.fn 121) (hro : F.round = none) (hn : 1 ≤ n) (l p q : Nat) (rows : List RwI) (i : Int) (A : Option Addr) (cap : Nat) (hrn : Hid (RwN rows)) (J Jx : List CqT → World → Prop)
  (hY : ∀ pre x W, J pre W → pre.length < rows.length → YieldAt F (n - 1) Try.prog l (cqE x) W fun e W' =>
   (e = .returned (.bool true) ∧ J (pre ++ [x]) W' ∧ KpC P p q W W') ∨ (e = .returned (.bool false) ∧ Jx (pre ++ [x]) W'))
  (hJ : ∀ pre (W : World) o, J pre W → J pre (W.alloc o)) (W : World) (hp : W.cell? ⟨p, 0, none⟩ = some (.slice A rows.length cap)) (hq : W.cell? ⟨q, 0, none⟩ = some (.int .i64 i)) (hr : Hid (RdX P 4 RwE W (.slice A rows.length cap) rows)) (hPp : ∀ k, P k → k < p) (h0 : J [] W) :
  CallsIn F n Try.prog 121 #[.func (.yield l) #[] #[], .pointer (some ⟨p, 0, none⟩), .pointer (some ⟨q, 0, none⟩)] W fun e W' => (∃ v, e = .returned v) ∧
   ((∃ ys : List CqT, cqL ys = catL rows i ∧ J ys W') ∨ (∃ pre, True ∧ Jx pre W')) := by
 have hrl := hr.out.len
 refine callsIn_of_wp Try.func121 rfl h7 ?_ hro
 simp only [Try.ntmps121, List.size_toArray, List.length_cons, List.length_nil, Nat.reduceAdd, Nat.reduceSub, Array.replicate_succ, Array.replicate_zero, List.push_toArray, List.append_toArray, List.nil_append, List.cons_append]
 gi_wp2
 gi_loopw [9] (fun j wr => ∃ m : Nat, m ≤ rows.length ∧ j = .int .i64 m ∧ ∃ pre : List CqT, Hid (cqL pre ++ catL (rows.drop m) i = catL rows i) ∧ Hid (pre.length ≤ m) ∧ J pre wr ∧ Hid (KpC P p q W wr))
  (fun j _ => rows.length - (intOf j).toNat)
 case atStart => exact ⟨0, Nat.zero_le _, rfl, [], lhid (by simp), lhid (by simp), h0, lhid (fun _ _ => rfl)⟩
 case round =>
  obtain ⟨m, hm, rfl, pre, HP, HL, hJs, HKp⟩ := hrel
  by_cases hlt : m < rows.length
  ·obtain ⟨r, hx⟩ : ∃ r, rows[m]? = some r := ⟨_, List.getElem?_eq_getElem hlt⟩
   obtain ⟨g, o, cc, hA, hPg, hE, hc⟩ := hr.out.at' hx
   have hE : cc = [.int .i64 r.fr, .int .i64 r.too, .int .i64 r.at_, .string (tx r.cls)] := hE
   subst hE
   have c0 := hc 0 _ rfl
   have c1 := hc 1 _ rfl
   have c2 := hc 2 _ rfl
   have c3 := hc 3 _ rfl
   rw [Nat.add_zero] at c0
   clear hc
   have hgl : g < W.heap.size := cell_lt c0
   have hbx : wr.cell? ⟨p, 0, none⟩ = some (.slice A rows.length cap) := (cell_heap (HKp.out p (.inl rfl)) 0).trans hp
   have hby : wr.cell? ⟨q, 0, none⟩ = some (.int .i64 i) := (cell_heap (HKp.out q (.inr (.inl rfl))) 0).trans hq
   have hgk := HKp.out g (.inr (.inr (.inl hPg)))
   replace c0 := (cell_heap hgk _).trans c0
   replace c1 := (cell_heap hgk _).trans c1
   replace c2 := (cell_heap hgk _).trans c2
   replace c3 := (cell_heap hgk _).trans c3
   have hpw : p < wr.heap.size := cell_lt hbx
   have hqw : q < wr.heap.size := cell_lt hby
   have hgw : g < wr.heap.size := cell_lt c0
   have HD : Hid (rows.drop m = r :: rows.drop (m + 1)) := lhid (by
    rw [List.drop_eq_getElem_cons hlt]
    have := List.getElem?_eq_getElem hlt
    rw [hx] at this
    rw [Option.some.inj this])
   have HAA := lhid hA
   have hrat := hrn.out r (List.mem_of_getElem? hx)
   have k3 : (m : Int) < rows.length := by omega
   have hwk : wrap64 ((m : Int) + 1) = (m : Int) + 1 := IntWalk.wrap64_in _ (by omega)
   subst hA
   have HJ2 : Hid (J pre (wr.alloc (.cells #[.int .i64 r.fr, .int .i64 r.too, .int .i64 r.at_, .string (tx r.cls)] 52))) := lhid (hJ pre wr _ hJs)
   have HK2 : Hid (KpC P p q W (wr.alloc (.cells #[.int .i64 r.fr, .int .i64 r.too, .int .i64 r.at_, .string (tx r.cls)] 52))) := lhid (HKp.out.trans (KpC.alloc _ hpw hqw (fun k e => by have := hPp k e; omega) _))
   have HRB : Hid ((wr.alloc (.cells #[.int .i64 r.fr, .int .i64 r.too, .int .i64 r.at_, .string (tx r.cls)] 52)).heap[wr.heap.size]? = some (.cells #[.int .i64 r.fr, .int .i64 r.too, .int .i64 r.at_, .string (tx r.cls)] 52 (0, 0))) := lhid (heap_alloc_new wr _)
   clear hx hgk hJs
   by_cases a1 : r.fr ≤ i
   ·by_cases a2 : i < r.too
    ·have HCA : Hid (catL (rows.drop m) i = r.at_ :: (if r.cls = [] then [] else catL (rows.drop (m + 1)) i)) := lhid (by rw [HD.out]; exact catL_yes (by unfold aboutB; rw [decide_eq_true a1, decide_eq_true a2]; rfl))
     obtain ⟨fn, tmps, assign, body, hy, hR⟩ := hY pre ⟨r.at_, hrat⟩ _ HJ2.out (by have := HL.out; omega)
     dsimp only [cqE] at hy
     by_cases hc : r.cls = []
     ·have HC := lhid hc
      have hc1 : ((tx r.cls).toList == ([] : Bs)) = true := by rw [tx_toL, hc]; rfl
      have hc2 : (tx r.cls).toList.isEmpty = true := by rw [tx_toL, hc]; rfl
      have hc3 : (tx r.cls).toList = [] := by rw [tx_toL]; exact hc
      clear hc
      gi_wp2
      refine hR.mono ?_
      rintro e W3 (⟨rfl, hJ3, hk3⟩ | ⟨rfl, hJx3⟩)
      ·have r3 := heap_cell (i := 3) ((hk3 _ (.inr (.inr (.inr ⟨_, _, HRB.out⟩)))).trans HRB.out) rfl
       have HJ3 : Hid (cqL (pre ++ [(⟨r.at_, hrat⟩ : CqT)]) = catL rows i) := lhid (by
        have := HP.out
        rw [HCA.out, if_pos HC.out] at this
        rw [← this]
        simp)
       have HJ4 := lhid hJ3
       clear hJ3
       gi_wp2
       refine bodyPost_ret (results_none rfl _ _ _) rfl ?_
       exact ⟨⟨_, rfl⟩, .inl ⟨_, HJ3.out, HJ4.out⟩⟩
      ·gi_wp2
       refine bodyPost_ret (results_none rfl _ _ _) rfl ?_
       exact ⟨⟨_, rfl⟩, .inr ⟨_, trivial, hJx3⟩⟩
     ·have HC := lhid hc
      have hc1 : ((tx r.cls).toList == ([] : Bs)) = false := by rw [tx_toL, beq_eq_false_iff_ne]; exact hc
      have hc2 : (tx r.cls).toList.isEmpty = false := by rw [tx_toL]; simpa using hc
      have hc3 : ¬ (tx r.cls).toList = [] := by rw [tx_toL]; exact hc
      clear hc
      gi_wp2
      refine hR.mono ?_
      rintro e W3 (⟨rfl, hJ3, hk3⟩ | ⟨rfl, hJx3⟩)
      ·have r3 := heap_cell (i := 3) ((hk3 _ (.inr (.inr (.inr ⟨_, _, HRB.out⟩)))).trans HRB.out) rfl
       have HP3 : Hid (cqL (pre ++ [(⟨r.at_, hrat⟩ : CqT)]) ++ catL (rows.drop (m + 1)) i = catL rows i) := lhid (by
        have := HP.out
        rw [HCA.out, if_neg HC.out] at this
        rw [← this]
        simp)
       have HL3 : Hid ((pre ++ [(⟨r.at_, hrat⟩ : CqT)]).length ≤ m + 1) := lhid (by have := HL.out; simp; omega)
       have HJ3 := lhid hJ3
       have HK3 : Hid (KpC P p q W W3) := lhid (HK2.out.trans hk3)
       clear hJ3 hk3
       gi_wp2
       go_roundw
       case rel => exact ⟨m + 1, by omega, by first | go_num | (rw [hwk]; rfl), _, HP3, HL3, HJ3.out, HK3⟩
       case measure => simp [intOf]; omega
      ·gi_wp2
       refine bodyPost_ret (results_none rfl _ _ _) rfl ?_
       exact ⟨⟨_, rfl⟩, .inr ⟨_, trivial, hJx3⟩⟩
    ·have HP3 : Hid (cqL pre ++ catL (rows.drop (m + 1)) i = catL rows i) := lhid (by
      have := HP.out
      rwa [HD.out, catL_no (by unfold aboutB; rw [decide_eq_false a2, Bool.and_false])] at this)
     have HL3 : Hid (pre.length ≤ m + 1) := lhid (by have := HL.out; omega)
     gi_wp2
     refine ⟨fun f hf => (by cases hf), ?_⟩
     gi_wp2
     go_roundw
     case rel => exact ⟨m + 1, by omega, by first | go_num | (rw [hwk]; rfl), _, HP3, HL3, HJ2.out, HK2⟩
     case measure => simp [intOf]; omega
   ·have HP3 : Hid (cqL pre ++ catL (rows.drop (m + 1)) i = catL rows i) := lhid (by
     have := HP.out
     rwa [HD.out, catL_no (by unfold aboutB; rw [decide_eq_false a1, Bool.false_and])] at this)
    have HL3 : Hid (pre.length ≤ m + 1) := lhid (by have := HL.out; omega)
    gi_wp2
    refine ⟨fun f hf => (by cases hf), ?_⟩
    gi_wp2
    go_roundw
    case rel => exact ⟨m + 1, by omega, by first | go_num | (rw [hwk]; rfl), _, HP3, HL3, HJ2.out, HK2⟩
    case measure => simp [intOf]; omega
  ·have k3 : ¬ (m : Int) < rows.length := by omega
   have HP2 : Hid (cqL pre = catL rows i) := lhid (by
    have := HP.out
    rw [List.drop_of_length_le (by omega)] at this
    simpa [catL] using this)
   gi_wp2
   go_end0
   exact ⟨⟨_, rfl⟩, .inl ⟨pre, HP2.out, hJs⟩⟩
theorem catchers_stops {P : Nat → Prop} (F : Fence) (n : Nat) (h7 : F.fn 121) (hro : F.round = none) (hn : 1 ≤ n) (p q : Nat) (rows : List RwI) (i : Int) (A : Option Addr) (cap : Nat) (w : World) (hp : w.cell? ⟨p, 0, none⟩ = some (.slice A rows.length cap)) (hq : w.cell? ⟨q, 0, none⟩ = some (.int .i64 i)) (hr : Hid (RdX P 4 RwE w (.slice A rows.length cap) rows)) (hrn : Hid (RwN rows)) (hPp : ∀ k, P k → k < p) :
  SeqStopsK F n Try.prog 121 #[.pointer (some ⟨p, 0, none⟩), .pointer (some ⟨q, 0, none⟩)] cqE (KpC P p q) (fun ys => cqL ys = catL rows i) (fun _ => True) rows.length w := fun l J Jx W hW hJ _ hY h0 =>
 catchers1_in F n h7 hro hn l p q rows i A cap hrn J Jx hY (fun pre W' o h => hJ pre W' _ none h (World.grownBy_alloc W' o none) (fun r e => by cases e)) W ((hW.cell (p := ⟨p, 0, none⟩) (cell_lt hp)).trans hp) ((hW.cell (p := ⟨q, 0, none⟩) (cell_lt hq)).trans hq) (lhid (hr.out.below (keptX_rw _) hW)) hPp h0
end Go.Proofs.Ytbkeneadoccodaa
