/- Texts of this claim, joined: KinSort, KinAbove0, KinStep, KinMeth. -/
import Derived.Test.YtpdnonlelocfbaaGreatDoorM16
import Derived.Test.YtpdnonlelocfbaaGreatDoorM17
import Derived.Sort.OwnSorted
import Derived.Test.YtpdnonlelocfbaaGreatDoorM15
import Derived.Deep.AppendLies
import Derived.Deep.RegionLaw
import Derived.Test.YtpdnonlelocfbaaGreatDoorM13
/- slices.Sort of the call's own texts; Above. -/
namespace Go.Proofs.YtpdnonlelocfbaaGreatDoor
open Go.RowKit Go Go.Maps
set_option linter.unusedVariables false

abbrev txV (l : List Bs) : List Value := l.map fun s => .string (tx s)
def sortB (l : List Bs) : List Bs := l.mergeSort fun x y => decide (x ≤ y)
theorem sortB_len (l : List Bs) : (sortB l).length = l.length := by unfold sortB; simp
theorem sortB_mem (l : List Bs) (z : Bs) : z ∈ sortB l ↔ z ∈ l := by unfold sortB; simp
theorem sort_own (B : Nat) (v : Value) (ss : List Bs) (w : World) (h : Hid (w.ownsRow B 9 1 v ss.length (txV ss))) (hl : ss.length ≤ 10000) :
    Calls Tryz.prog 204 #[v] w fun e w' => e = .returned (.tuple #[]) ∧ w'.ownsRow B 9 1 v ss.length (txV (sortB ss)) ∧ w.grownBy w' v.ownBlock := by
  rcases h.out.2 with ⟨rfl, h0⟩ | ⟨g, cap, cur, rfl, hbase, hb, h1, h2, h3, h4⟩
  · have : ss = [] := List.length_eq_zero_iff.1 h0
    subst this
    refine (Tryz.slices_Sort_string_none none 0 w).mono ?_
    rintro e w' ⟨rfl, rfl⟩
    exact ⟨rfl, by simpa [sortB] using h.out, ⟨rfl, rfl, rfl, Nat.le_refl _, fun _ _ _ => rfl⟩⟩
  · have hH := holds_of_block (ss := ss) hb (by rw [Nat.mul_one] at h4; exact h4)
    refine (Tryz.slices_Sort_string g 0 cap ss w hH (heap_lt hb) (by omega)).mono ?_
    rintro e w' ⟨rfl, n, os, rfl⟩
    refine ⟨rfl, ?_, grownBy_sorted _⟩
    have := ownsRow_sorted (n := n) (os := os) (ss := ss) (ts := sortB ss) (by unfold sortB; simp) hbase hb h1 h2 (by omega)
    exact this
theorem run_sv {w : World} {sb : Nat} {S : List Bs} (h : SV w sb S) : ∃ D : DataW Value, w.ownsMap Tryz.prog 9 hv sb S.length D ∧ ∀ s : Bs, s.length ≤ maxLen → has D (litS s) = decide (s ∈ S) := by
  obtain ⟨_, D, h1, h2⟩ := h
  refine ⟨D, h1, fun s hs => ?_⟩
  rw [(h2 s hs).1]
  by_cases e : s ∈ S <;> simp [e]
theorem rows_tx (w : World) : ∀ l : List Bs, RowsE 1 (StE w) l (txV l)
  | [] => rowsE_nil _ _
  | s :: l => by
    have := (rowsE_one (k := 1) (E := StE w) (a := s) (c := [.string (tx s)]) rfl rfl).app (rows_tx w l)
    simpa [txV] using this
/-- What Above answers. -/
def AboveOut (L : List ClI) (s : Bs) (w : World) (e : Ending) (w' : World) : Prop :=
  ∃ v l, e = .returned v ∧ RdX (fun g => w.heap.size ≤ g) 1 StE w' v l ∧ (∃ l0 : List Bs, l = sortB l0 ∧ l0.Nodup) ∧ (∀ z, z ∈ l ↔ s ∈ names L ∧ Rch L s z) ∧ Below w.heap.size w w'
set_option maxHeartbeats 16000000 in
set_option maxRecDepth 100000 in
theorem above_any (B tb : Nat) (L : List ClI) (s : Bs) (w : World) (hT : Hid (TreeOK B w tb L)) (hs : s.length ≤ maxLen) (hL : L.length ≤ 100) (hSh : Short L) (hIn : Hid (∀ z, s ∈ names L → Rch L s z → z ∈ names L)) :
    Calls Tryz.prog 140 #[.pointer (some ⟨tb, 0, none⟩), .string (tx s)] w (AboveOut L s w) := by
  obtain ⟨i0, hi, hz0, hz1, hz2⟩ := info_parts info_st
  obtain ⟨⟨cb, ab, n, v0, g1, g2, g3, f, hm, hfs⟩, g6⟩ := hT.out
  have t2 := heap_cell (i := 2) g1 rfl
  by_cases hn : s ∈ names L
  · obtain ⟨sb, S, q3, q4, q5, q6⟩ := (hfs s).1 hn
    have HN := lhid hn
    have hlk : (Instr.lookup 98 (.map (some ab)) (.string (tx s)) false).run Tryz.prog w = .ok (.map (some sb)) w := by
      have := (hm.look und_am (zero_set w) hs).1
      rw [q3] at this
      exact this
    obtain ⟨D, hown, hD⟩ := run_sv q4
    have HD := lhid hD
    have HND := lhid q4.1
    have HQ6 := lhid q6
    have hSl : S.length ≤ 100 := by
      have e1 := nodup_len S (names L) q4.1 (fun x hx => hIn.out x hn ((q6 x).1 hx))
      have e2 : (names L).length = L.length := by unfold names; rw [List.length_map]
      omega
    have hsbl := hown.lt
    clear hD q3 q4 q5 q6 g1 g2 g3 hm hfs hn
    go_enter Tryz.func140, Tryz.ntmps140
    go_wp2_with (at_range; refine wpList_range_own _ rfl _ 170 rfl 9 226 lawS und_set hv sb S.length D rfl hown ?_)
    intro w0 hrg0 hg0 hs0
    have HRG0 := lhid hrg0
    have HB0 : Hid (Below w.heap.size w w0) := lhid (Below.grown (Below.refl _ _) hg0 (Nat.le_refl _) (fun k hk => by cases hk))
    have HSZ := lhid hown.size_le
    clear hg0 hlk t2 hrg0
    go_wp2_with fail
    go_loopw [5] (fun v wr => ∃ (left : Lit → Bool) (cnt : Nat) (l : List Bs), Hid (wr.ranges Tryz.prog 9 hv sb w.heap.size S.length D left cnt) ∧ l.length + cnt ≤ S.length ∧ l.Nodup ∧ Hid (∀ x : Bs, x.length ≤ maxLen → (x ∈ l ↔ has D (litS x) = true ∧ left (litS x) = false)) ∧ Hid (∀ kl, left kl = true → has D kl = true) ∧ Hid (∀ x ∈ l, x.length ≤ maxLen) ∧ Hid (wr.ownsRow (w.heap.size + 1) 9 1 v l.length (txV l)) ∧ Hid (Below w.heap.size w wr)) (fun _ wr => wr.rangeLeft sb w.heap.size)
    case atStart => exact ⟨_, _, [], HRG0, by simpa using HSZ.out, List.nodup_nil, lhid (fun x _ => by constructor; (intro h; cases h); (rintro ⟨h1, h2⟩; rw [h1] at h2; cases h2)), lhid (fun _ h => h), lhid (by simp), lhid (World.ownsRow_nil _ _ _ _), HB0⟩
    case round =>
      obtain ⟨left, cnt, l, HRG, hcnt, hnd, HLL, HLH, HLS, HV, HB⟩ := hrel
      have hbs := HB.out.size
      have hr0 : w.heap.size < wr.heap.size := HRG.out.lt
      have HNDl := lhid hnd
      clear hnd
      go_wp2_with (at_next; refine wpList_next_ranges _ rfl _ rfl 9 lawS hv (fun x : Bs => .string (tx x)) (fun v : Value => v) (fun key kl hk => (key_inv hk).imp fun x hx => hx.1) (fun v y _ => ⟨v, rfl⟩) sb w.heap.size S.length D left cnt rfl HRG.out ?b1 ?b2)
      case b1 =>
        intro hc0 hl0
        have HL0 := lhid hl0
        clear hl0
        go_wp2_with fail
        with_reducible refine (sort_own (w.heap.size + 1) _ l _ HV (by omega)).mono ?_
        rintro e w2 ⟨rfl, ho2, hg2⟩
        have HO2 := lhid ho2
        have HB2 := lhid (Below.grown HB.out hg2 hbs (fun k hk => by have := own_lt HV.out k hk; omega))
        clear ho2 hg2
        go_wp2_with fail
        go_ret
        refine ⟨_, sortB l, rfl, (rdX_own (E := StE) (l := sortB l) (by rw [sortB_len]; exact HO2.out) (by rw [sortB_len]; omega) (rows_tx _ _)).any (fun g hg => by have := hg.1; omega), ⟨l, rfl, HNDl.out⟩, fun z => ?_, HB2.out⟩
        rw [sortB_mem]
        constructor
        · intro hz
          have h1 := (HLL.out z (HLS.out z hz)).1 hz
          rw [HD.out z (HLS.out z hz)] at h1
          exact ⟨HN.out, (HQ6.out z).1 (by simpa using h1.1)⟩
        · rintro ⟨_, hz⟩
          have hzl := short_name hSh (hIn.out z HN.out hz)
          refine (HLL.out z hzl).2 ⟨?_, HL0.out _⟩
          rw [HD.out z hzl]
          simpa using (HQ6.out z).2 hz
      case b2 =>
        intro x c kl y1 y2 w1 cnt' hkey hlk hv0 hat hrg1 hlt hg1 hs1 hen
        obtain ⟨x', hx', rfl, hxl⟩ := key_inv hkey
        obtain rfl : x = x' := by injection hx' with hx'; exact tx_inj hx'
        have HLK := lhid hlk
        have HRG1 := lhid hrg1
        have HS1 := lhid hs1
        have HV1 := lhid (own_of HV.out fun g hg => hg1.block g (HV.out.lt g hg).2 (fun e => by injection e with e; have := own_lt HV.out g hg; omega))
        have HB1 := lhid (Below.grown HB.out hg1 hbs (fun k hk => by injection hk with hk; omega))
        have h1s : w.heap.size < w1.heap.size := by omega
        clear hkey hlk hv0 hat hrg1 hx' hg1 hs1
        go_wp2_with (at_builtin; refine wpList_append_own _ rfl _ _ 34 rfl (w.heap.size + 1) 9 i0 (.string ⟨#[]⟩) 1 16 Tryz.underlying34 hi hz0 hz1 hz2 rfl (by decide) _ l.length (txV l) rfl (HV1.out.alloc _) ⟨w1.heap.size, 0, none⟩ 1 1 [.string (tx x)] rfl rfl (new_cells _ _ _) ?a2 ?a3 ?a4 ?a5 ?_)
        case a2 => simp [Value.oneCell']
        case a3 => unfold maxLen; omega
        case a4 => omega
        case a5 => simp; omega
        intro v2 w2 hown2 hgrow hnil
        have HV2 := lhid hown2
        have HB2 := lhid (Below.grown (HB1.out.alloc (by omega) _) hgrow (by simp; omega) (fun k hk => by have := own_lt HV1.out k hk; omega))
        have HRG2 := lhid ((HRG1.out.alloc _).kept hgrow (fun e => by have := own_lt HV1.out _ e.symm; omega) (fun e => by have := own_lt HV1.out _ e.symm; omega))
        clear hown2 hgrow hnil hen
        go_wp2_with fail
        go_roundw
        case rel =>
          have hxn : x ∉ l := fun h => by
            have := ((HLL.out x hxl).1 h).2
            rw [HLK.out] at this
            cases this
          refine ⟨_, cnt', l ++ [x], HRG2, by simp; omega, ?_, lhid (fun z hz => ?_), lhid (fun kl h => HLH.out kl (by simp only [Bool.and_eq_true] at h; exact h.1)), lhid (fun z hz => ?_), lhid (by simpa [txV] using HV2.out), HB2⟩
          · rw [List.nodup_append]
            refine ⟨HNDl.out, by simp, fun a ha b hb e => ?_⟩
            simp at hb
            subst hb
            subst e
            exact hxn ha
          · rw [List.mem_append, List.mem_singleton, same_lit]
            by_cases e : z = x
            · subst e
              simp [HLH.out _ HLK.out]
            · simp [e, HLL.out z hz]
          · rcases List.mem_append.1 hz with hz | hz
            · exact HLS.out z hz
            · simp at hz
              rw [hz]
              exact hxl
        case measure =>
          rw [HRG2.out.left_eq, HRG.out.left_eq]
          omega
  · have HN := lhid hn
    have hlk : (Instr.lookup 98 (.map (some ab)) (.string (tx s)) false).run Tryz.prog w = .ok (.map none) w := by
      have := (hm.look und_am (zero_set w) hs).1
      rw [(hfs s).2 hn] at this
      exact this
    clear g1 g2 g3 hm hfs hn
    have hr := fun w' => run_range_nilMap (P := Tryz.prog) w' 170 9 226 und_set
    go_enter Tryz.func140, Tryz.ntmps140
    have hnx := fun ty => run_next_nilMap (P := Tryz.prog) w ty 0 0 #[]
    have HB0 : Hid (Below w.heap.size w (w.alloc (.mapIter none 0 #[] 0))) := lhid ((Below.refl _ _).alloc (Nat.le_refl _) _)
    go_wp2_with fail
    go_loopw [5] (fun v wr => v = .slice none 0 0 ∧ wr = w.alloc (.mapIter none 0 #[] 0)) (fun _ _ => 0)
    case atStart => exact ⟨rfl, rfl⟩
    case round =>
      obtain ⟨rfl, rfl⟩ := hrel
      go_wp2_with fail
      with_reducible refine (Tryz.slices_Sort_string_none none 0 _).mono ?_
      rintro e w2 ⟨rfl, rfl⟩
      go_wp2_with fail
      go_ret
      exact ⟨_, [], rfl, rdX_nil _ _ _ _ _ _ (fun _ => rfl), ⟨[], by simp [sortB], List.nodup_nil⟩, fun z => by simp [HN.out], HB0.out⟩
end Go.Proofs.YtpdnonlelocfbaaGreatDoor
/- Names, light; what stands above whom, for KinAbove. -/
namespace Go.Proofs.YtpdnonlelocfbaaGreatDoor
open Go.RowKit Go Go.Maps
set_option linter.unusedVariables false

set_option maxHeartbeats 8000000 in
set_option maxRecDepth 100000 in
theorem names_any (B tb : Nat) (L : List ClI) (w : World) (hT : Hid (TreeOK B w tb L)) :
    Calls Tryz.prog 25 #[.pointer (some ⟨tb, 0, none⟩)] w fun e w' => ∃ v, e = .returned v ∧ RdX (fun g => w.heap.size ≤ g) 1 StE w' v (names L) ∧ Below w.heap.size w w' := by
  obtain ⟨⟨cb, ab, n, v0, g1, g2, g3, g4⟩, g6⟩ := hT.out
  have t0 := heap_cell (i := 0) g1 rfl
  have G2 := lhid g2
  clear g1 g2 g3 g4 g6
  obtain ⟨A0, c0, rfl⟩ := G2.out.shape
  go_enter Tryz.func25, Tryz.ntmps25
  go_wp2_with fail
  refine (clone_st row_st (.slice A0 (names L).length c0) (names L) w G2).mono ?_
  rintro e w1 ⟨v1, xs, rfl, ho, hr, hb⟩
  have HR := lhid ((rdX_own (E := StE) ho G2.out.len hr).any (Q := fun g => w.heap.size ≤ g) fun g hg => hg.1)
  have HB := lhid hb
  clear ho hr hb
  go_wp2_with fail
  go_ret
  exact ⟨v1, by rfl, HR.out, HB.out⟩
/-- A sorted list without repeats rises. -/
theorem sortB_rises (l0 : List Bs) (h : l0.Nodup) : (sortB l0).Pairwise (fun x y => x < y) := by
  have h1 : (sortB l0).Pairwise (fun x y => x ≤ y) := by
    have := List.pairwise_mergeSort (le := fun x y : Bs => decide (x ≤ y)) (fun a b c h1 h2 => by simp at h1 h2 ⊢; exact List.le_trans h1 h2) (fun a b => by simp; exact List.le_total a b) l0
    exact this.imp (fun h => by simpa using h)
  have h2 : (sortB l0).Nodup := (List.mergeSort_perm l0 _).nodup_iff.2 h
  exact (h1.and h2).imp (fun {a b} h => by
    rcases Classical.em (a < b) with h3 | h3
    · exact h3
    · exact absurd (List.le_antisymm h.1 (List.not_lt.1 h3)) h.2)
end Go.Proofs.YtpdnonlelocfbaaGreatDoor
/- 'append' of what can be read, in a region that draws its order. -/
namespace Go.Proofs.YtpdnonlelocfbaaGreatDoor
open Go.RowKit Go Go.Maps
set_option linter.unusedVariables false

set_option maxRecDepth 100000 in
theorem step_append_rd {ops : Array Oper} {o : Oper} {a : Act} {w : World} {K : Act → World → Prop} {Q : Exit → Act → World → Prop} {F : Prop} (hgd : o.guard = none) (s x : Operand) (t : TypeId)
    (ho : o.op = .call { callee := .builtin .append, args := #[s, x], argTypes := #[t, t] })
    (base : Nat) (e : TypeId) (i : TypeInfo) (z : Value) (size bytes : Nat) (ht : Tryz.prog.underlying t = some (.slice e)) (hi : Tryz.prog.info? e = some i) (hz : i.zero = some z)
    (hsize : i.size = size) (hby : i.bytes = bytes) (hzs : z.cells.size = size) (hsz : 0 < size)
    (v : Value) (n : Nat) (xs : List Value) (hs : a.eval s = v) (hown : w.ownsRow base e size v n xs)
    {α : Type} {P : Nat → Prop} {E : World → α → List Value → Prop} (hk : Row1 size E) (v2 : Value) (l2 : List α) (hx : a.eval x = v2) (h2 : RdX P size E w v2 l2)
    (hb : n + l2.length ≤ 8589934592) (hby2 : bytes ≤ 136) (hbase : base ≤ w.heap.size)
    (h : ∀ v' w' ys, w'.ownsRow base e size v' (n + l2.length) (xs ++ ys) → RowsE size (E w) l2 ys → w.grownBy w' v.ownBlock → K (a.put o.dst v') w') :
    if Region.wanted o (yielded ops a.tmps) = true then Oper.wp Tryz.prog o a w K Q else F := by
  have hw : Region.wanted o (yielded ops a.tmps) = true := by simp [Region.wanted, hgd]
  rw [if_pos hw]
  obtain ⟨A, cap, rfl⟩ := h2.shape
  cases A with
  | none =>
    obtain ⟨rfl, _, rfl⟩ := h2.none0
    have hrun := run_append_owned_none (P := Tryz.prog) (w := w) base t o.type e i size ht hi v n xs hown
    have hx' : a.eval x = .slice none 0 0 := hx
    unfold Oper.wp
    simp [execOp, ho, resolve, invoke, builtin, hs, hx', hrun, Result.andThen]
    exact h v w [] (by simpa using hown) (rowsE_nil _ _) ⟨rfl, rfl, rfl, Nat.le_refl _, fun _ _ _ => rfl⟩
  | some ad =>
    obtain ⟨ys, h3, h4, h5⟩ := rdX_cells hk h2
    have h6 : (n + l2.length) * bytes ≤ 8589934592 * 136 := Nat.mul_le_mul hb hby2
    exact wp_append_own w s x t ho base e i z size bytes ht hi hz hsize hby hzs hsz v n xs hs hown ad l2.length cap ys hx h3.1 h4 h5 (by unfold maxLen; omega) (by omega) hbase (fun v' w' r1 r2 _ => h v' w' ys r1 h3 r2)
end Go.Proofs.YtpdnonlelocfbaaGreatDoor
/- Method: the method that a class's name and a method's lead to. -/
namespace Go.Proofs.YtpdnonlelocfbaaGreatDoor
open Go.RowKit Go Go.Maps
set_option linter.unusedVariables false

def methB (n d : Bs) (f : MeI) : Bool := decide (f.name = n) && decide (f.desc = d)
/-- A class's own method. -/
def methIn (L : List ClI) (n d o : Bs) : Option (Bs × MeI) :=
  match findC L o with
  | none => none
  | some c => (c.methods.find? (methB n d)).map fun f => (o, f)
def zM : MeI := ⟨0, [], [], 0, 0, [], [], []⟩
/-- What Method answers of a list of classes. -/
def MethIs (L : List ClI) (n d : Bs) (l : List Bs) (o : Bs) (f : MeI) (ok : Bool) : Prop :=
  (l.findSome? (methIn L n d) = none ∧ o = [] ∧ f = zM ∧ ok = false) ∨ (l.findSome? (methIn L n d) = some (o, f) ∧ ok = true)
/-- All that stand above a class, in the order of their bytes. -/
def Abv (L : List ClI) (s : Bs) (la : List Bs) : Prop := (∃ l0, la = sortB l0 ∧ l0.Nodup) ∧ ∀ z, z ∈ la ↔ s ∈ names L ∧ Rch L s z
def MethOut (L : List ClI) (s n d : Bs) (w : World) (e : Ending) (w' : World) : Prop :=
  ∃ o cs f ok, e = .returned (.tuple #[.string (tx o), .agg (cs : List Value).toArray, .bool ok]) ∧ MeE (fun g => w.heap.size ≤ g) w' f cs ∧ (∃ l la, Lin L s l ∧ Abv L s la ∧ MethIs L n d (l ++ la) o f ok) ∧ Below w.heap.size w w'
theorem run_meths' (a : Int) (n s : ByteArray) (A B C D : Option Addr) (l1 l2 l3 l4 c1 c2 c3 c4 : Nat) (w : World) : (Instr.field 39 (.agg #[.int .i64 a, .string n, .string s, .slice A l1 c1, .slice B l2 c2, .slice C l3 c3, .slice D l4 c4]) 6).run Tryz.prog w = .ok (.slice D l4 c4) w := by kernel_rfl
set_option maxHeartbeats 16000000 in
set_option maxRecDepth 100000 in
theorem meth_any (B tb : Nat) (L : List ClI) (s n d : Bs) (w : World) (hT : Hid (TreeOK B w tb L)) (hs : s.length ≤ maxLen) (hL : L.length ≤ 100) (hSh : Hid (Short L)) (hN : Hid (∀ z ∈ names L, ¬ Circ L z)) (hIn : Hid (∀ z, s ∈ names L → Rch L s z → z ∈ names L)) :
    Calls Tryz.prog 71 #[.pointer (some ⟨tb, 0, none⟩), .string (tx s), .string (tx n), .string (tx d)] w (MethOut L s n d w) := by
  have HB0 := lhid ((Below.refl w.heap.size w).alloc (Nat.le_refl _) (.cells #[.int .i64 0, .string ⟨#[]⟩, .string ⟨#[]⟩, .int .i64 0, .int .i64 0, .slice none 0 0, .slice none 0 0, .slice none 0 0] 27))
  have HX0 := lhid (heap_alloc_new w (.cells #[.int .i64 0, .string ⟨#[]⟩, .string ⟨#[]⟩, .int .i64 0, .int .i64 0, .slice none 0 0, .slice none 0 0, .slice none 0 0] 27))
  have HT0 := lhid (hT.out.below HB0.out)
  go_enter Tryz.func71, Tryz.ntmps71
  go_wp2_with fail
  generalize w.alloc (.cells #[.int .i64 0, .string ⟨#[]⟩, .string ⟨#[]⟩, .int .i64 0, .int .i64 0, .slice none 0 0, .slice none 0 0, .slice none 0 0] 27) = w0 at *
  have hw0 := HB0.out.size
  with_reducible refine (line_any B tb L s w0 HT0 hs hL hSh hN).mono ?_
  rintro e w1 ⟨v1, l1, rfl, hr1, hlin, hl1, hin, hb1⟩
  obtain ⟨A1, cap1, rfl⟩ := hr1.shape
  have HLI := lhid hlin
  have HB1 := lhid (HB0.out.trans (Below.less hb1 hw0))
  have hX1 := (hb1.block _ (heap_lt HX0.out)).trans HX0.out
  have HX1 := lhid hX1
  have hT1 := HT0.out.below hb1
  have HT1 := lhid hT1
  have hw1 := HB1.out.size
  have HR1 := lhid hr1
  have HI1 := lhid hin
  clear hr1 hlin hin hb1 hX1 hT1
  go_wp2_with fail
  with_reducible refine (above_any B tb L s w1 HT1 hs hL hSh.out hIn).mono ?_
  rintro e w2 ⟨v2, l2, rfl, hr2, hso, hmem, hb2⟩
  obtain ⟨A2, cap2, rfl⟩ := hr2.shape
  have HAB : Hid (Abv L s l2) := lhid ⟨hso, hmem⟩
  have HI2 : Hid (∀ z ∈ l2, z ∈ names L) := lhid fun z hz => hIn.out z ((hmem z).1 hz).1 ((hmem z).1 hz).2
  have hA2 := (Below.refl w2.heap.size w2).alloc (Nat.le_refl _) (.cells #[.slice A1 l1.length cap1, .slice A2 l2.length cap2] 34)
  have HP1 := lhid (((HR1.out.below (keptX_st _) hb2).below (keptX_st _) hA2).any (Q := fun _ => True) fun _ _ => trivial)
  have HP2 := lhid ((hr2.below (keptX_st _) hA2).any (Q := fun _ => True) fun _ _ => trivial)
  have HG := lhid (heap_alloc_new w2 (.cells #[.slice A1 l1.length cap1, .slice A2 l2.length cap2] 34))
  have hbb := Below.trans (Below.less hb2 (Nat.le_refl _)) (Below.less hA2 hb2.size)
  have HB2 := lhid (HB1.out.trans (Below.less hbb hw1))
  have hX2 := (hbb.block _ (heap_lt HX1.out)).trans HX1.out
  have HX2 := lhid hX2
  have HT2 := lhid (HT1.out.below hbb)
  clear hr2 hso hmem hb2 hA2 hbb hX2
  go_wp2_with fail
  generalize w2.alloc (.cells #[.slice A1 l1.length cap1, .slice A2 l2.length cap2] 34) = w3 at *
  have hw3 := HB2.out.size
  with_reducible refine (concat_st row_st w2.heap.size l1 l2 (.slice A1 l1.length cap1) (.slice A2 l2.length cap2) w3 HG HP1 HP2 2).mono ?_
  rintro e w4 ⟨v4, xs4, rfl, ho4, hrow4, hb4⟩
  obtain ⟨l, hl⟩ : ∃ l, l1 ++ l2 = l := ⟨_, rfl⟩
  have HLL := lhid hl
  have hlen1 := HP1.out.len
  have hl2len : l2.length ≤ 4294967296 := HP2.out.len
  have HIN : Hid (∀ z ∈ l, z ∈ names L) := lhid fun z hz => by
    rw [← hl] at hz
    rcases List.mem_append.1 hz with h | h
    · exact HI1.out z h
    · exact HI2.out z h
  rw [hl] at ho4 hrow4
  obtain ⟨A, cap, rfl⟩ := own_shape ho4
  have hll : l.length ≤ 4294967296 := by
    obtain ⟨⟨l0, h0, hnd⟩, hm⟩ := HAB.out
    have e1 := nodup_len l0 (names L) hnd (fun z hz => HI2.out z (by rw [h0, sortB_mem]; exact hz))
    have e2 : (names L).length = L.length := by unfold names; rw [List.length_map]
    rw [← hl, List.length_append, h0, sortB_len]
    omega
  have HR4 := lhid ((rdX_own (E := StE) ho4 hll (hrow4.imp fun _ _ h => h)).any (Q := fun _ => True) fun _ _ => trivial)
  have HB4 := lhid (HB2.out.trans (Below.less hb4 hw3))
  have hX4 := (hb4.block _ (heap_lt HX2.out)).trans HX2.out
  have HX4 := lhid hX4
  have HT4 := lhid (HT2.out.below hb4)
  have hlt4 := heap_lt hX4
  have hw4 := HB4.out.size
  clear ho4 hrow4 hb4 hX4 hl
  go_wp2_with fail
  go_loopw [24] (fun i wr => ∃ k : Nat, i = .int .i64 k ∧ k ≤ l.length ∧ Hid ((l.take k).findSome? (methIn L n d) = none) ∧ Hid (Below w4.heap.size w4 wr)) (fun i _ => l.length - (intOf i).toNat)
  case atStart => exact ⟨0, rfl, Nat.zero_le _, lhid rfl, lhid (Below.refl _ _)⟩
  case round =>
    obtain ⟨k, rfl, hk, HFN, HB⟩ := hrel
    have hbs := HB.out.size
    by_cases hlt : k < l.length
    · obtain ⟨x, hx⟩ : ∃ x, l[k]? = some x := ⟨_, List.getElem?_eq_getElem hlt⟩
      have hxn := HIN.out x (List.mem_of_getElem? hx)
      have hxl := short_name hSh.out hxn
      have HXA := lhid hx
      obtain ⟨ga, oa, cc, rfl, _, hE, hc⟩ := (HR4.out.below (keptX_st _) HB.out).at' hx
      have c0 : wr.cell? ⟨ga, oa + k, none⟩ = some (.string (tx x)) := by
        have := hc 0 (.string (tx x)) (by rw [show cc = [.string (tx x)] from hE]; rfl)
        rwa [Nat.mul_one] at this
      have k3 : (k : Int) < l.length := by omega
      have hTr := HT4.out.below HB.out
      obtain ⟨⟨cb, ab, nn, v0, g1, g2, g3, g4⟩, g6⟩ := hTr
      have t1 := heap_cell (i := 1) g1 rfl
      obtain ⟨ff, hm0, hfs⟩ := g3
      have HM := lhid hm0
      obtain ⟨c, hc⟩ := names_find hxn
      obtain ⟨u, hfu, cy, rfl, a', p', b', d', rfl, r1, r2, r3, r4⟩ := (hfs x).2 c hc
      obtain ⟨ya, da, rfl⟩ := r1.shape
      obtain ⟨yp, dp, rfl⟩ := r2.shape
      obtain ⟨yb, db, rfl⟩ := r3.shape
      obtain ⟨yd, dd, rfl⟩ := r4.shape
      have hfl := r4.len
      have HFU := lhid hfu
      have HC := lhid hc
      have R4 := lhid r4
      clear hx hE g1 g2 g4 g6 hm0 hfs hfu r1 r2 r3 r4 hc
      have hfd := fun w' => run_meths' c.flags (tx c.name) (tx c.super) ya yp yb yd c.ifaces.length c.pool.length c.fields.length c.methods.length da dp db dd w'
      go_wp2_with (at_lookup; refine wpList_look_mv _ rfl _ _ 97 rfl _ und_cm _ (zero_cl _) cb _ ff rfl HM.out x rfl hxl (.agg #[.int .i64 c.flags, .string (tx c.name), .string (tx c.super), .slice ya c.ifaces.length da, .slice yp c.pool.length dp, .slice yb c.fields.length db, .slice yd c.methods.length dd]) (by rw [HFU.out]; rfl) ?_)
      go_wp2_with fail
      go_loopw [36] (fun i wq => ∃ j : Nat, i = .int .i64 j ∧ j ≤ c.methods.length ∧ Hid ((c.methods.take j).find? (methB n d) = none) ∧ Hid (Below wr.heap.size wr wq)) (fun i _ => c.methods.length - (intOf i).toNat)
      case atStart => exact ⟨0, rfl, Nat.zero_le _, lhid rfl, lhid (Below.refl _ _)⟩
      case round =>
        obtain ⟨j, rfl, hj, HFJ, HBj⟩ := hrel
        have hbj := HBj.out.size
        by_cases hlt2 : j < c.methods.length
        · obtain ⟨y, hy⟩ : ∃ y, c.methods[j]? = some y := ⟨_, List.getElem?_eq_getElem hlt2⟩
          have hR := R4.out.below (keptX_me _) HBj.out
          obtain ⟨gb, ob, ce, rfl, _, hE, hcb⟩ := hR.at' hy
          have hc1 := row_me _ _ _ _ hE
          have HE := lhid hE
          have HRA : Hid (wr.rangeAt gb (ob + j * 8) ce) := lhid hcb
          have HSZ : Hid ((Tryz.prog.info? 27).map (·.size) = some ce.length) := lhid (by rw [hc1.1]; exact sz_meK)
          have HSA : Hid ((Tryz.prog.info? 27).map (·.size) = some ce.toArray.size) := lhid (by simpa using HSZ.out)
          have HALL : Hid (ce.toArray.all (·.oneCell') = true) := lhid (all_oneCell_toArray hc1.2)
          have hth : (wr.alloc (.cells #[.int .i64 0, .string ⟨#[]⟩, .string ⟨#[]⟩, .int .i64 0, .int .i64 0, .slice none 0 0, .slice none 0 0, .slice none 0 0] 27)).there wr.heap.size 0 8 := fun j hj => ⟨by
            rw [Nat.zero_add, heap_cell (heap_alloc_new wr _) (Array.getElem?_eq_getElem (by simpa using hj))]; rfl, heap_thaw (heap_alloc_new wr _) _⟩
          have HTA : Hid ((wr.alloc (.cells #[.int .i64 0, .string ⟨#[]⟩, .string ⟨#[]⟩, .int .i64 0, .int .i64 0, .slice none 0 0, .slice none 0 0, .slice none 0 0] 27)).there wr.heap.size 0 ce.toArray.size) := lhid (by rw [show ce.toArray.size = 8 by simpa using hc1.1]; exact hth)
          have HRB : Hid (((wr.alloc (.cells #[.int .i64 0, .string ⟨#[]⟩, .string ⟨#[]⟩, .int .i64 0, .int .i64 0, .slice none 0 0, .slice none 0 0, .slice none 0 0] 27)).setCells wr.heap.size 0 ce).rangeAt wr.heap.size 0 ce) := lhid (World.rangeAt_setCells_same _ _ _ _ (by rw [hc1.1]; exact hth))
          have HA2 : Hid (Below wr.heap.size wr ((wr.alloc (.cells #[.int .i64 0, .string ⟨#[]⟩, .string ⟨#[]⟩, .int .i64 0, .int .i64 0, .slice none 0 0, .slice none 0 0, .slice none 0 0] 27)).setCells wr.heap.size 0 ce)) := lhid (below_cells ((Below.refl wr.heap.size wr).alloc (Nat.le_refl _) _) (Nat.le_refl _) _ _)
          have hsz1 : ((wr.alloc (.cells #[.int .i64 0, .string ⟨#[]⟩, .string ⟨#[]⟩, .int .i64 0, .int .i64 0, .slice none 0 0, .slice none 0 0, .slice none 0 0] 27)).setCells wr.heap.size 0 ce).heap.size = wr.heap.size + 1 := by rw [setCells_size]; simp
          have HS1 := lhid hsz1
          have k4 : (j : Int) < c.methods.length := by omega
          have HYJ := lhid hy
          have HBW := lhid (HB.out.trans (Below.less HBj.out hbs))
          obtain ⟨ma, mb, md, hce, _, _, _⟩ := hE
          have q1 : ((wr.alloc (.cells #[.int .i64 0, .string ⟨#[]⟩, .string ⟨#[]⟩, .int .i64 0, .int .i64 0, .slice none 0 0, .slice none 0 0, .slice none 0 0] 27)).setCells wr.heap.size 0 ce).cell? ⟨wr.heap.size, 1, none⟩ = some (.string (tx y.name)) := HRB.out 1 _ (by rw [hce]; rfl)
          have q2 : ((wr.alloc (.cells #[.int .i64 0, .string ⟨#[]⟩, .string ⟨#[]⟩, .int .i64 0, .int .i64 0, .slice none 0 0, .slice none 0 0, .slice none 0 0] 27)).setCells wr.heap.size 0 ce).cell? ⟨wr.heap.size, 2, none⟩ = some (.string (tx y.desc)) := HRB.out 2 _ (by rw [hce]; rfl)
          have HN5 := lhid (HBj.out.trans (Below.less HA2.out hbj))
          clear hy hcb hc1 hth hsz1 hce hR
          by_cases hn1 : y.name = n
          · have e1 := tx_yes hn1
            by_cases hn2 : y.desc = d
            · have e2 := tx_yes hn2
              have hhit : methIn L n d x = some (x, y) := by
                unfold methIn
                rw [HC.out]
                show (c.methods.find? (methB n d)).map _ = _
                rw [find_hit HFJ.out HYJ.out (by unfold methB; simp [hn1, hn2])]
                rfl
              have HHIT := lhid (findSome_hit HFN.out HXA.out hhit)
              clear hhit hn1 hn2
              have HES := lhid (keptX_me _ _ _ _ _ (fun b _ hl => HA2.out.block b hl) HE.out)
              have HX5 := lhid ((HA2.out.block _ (by have := HBW.out.size; omega)).trans ((HBW.out.block _ hlt4).trans HX4.out))
              have HB5 := lhid ((HB4.out.trans (Below.less HBW.out hw4)).trans (Below.less HA2.out (by have := HBW.out.size; omega)))
              go_wp2_with (first | (refine wpList_load_mid rfl 27 _ rfl gb (ob + j * 8) rfl ce _ HRA.out Tryz.underlying27 (by rfl) HSZ.out ?_) | (refine wpList_store_mid rfl 27 _ _ rfl wr.heap.size 0 ce.toArray rfl rfl HTA.out HSA.out HALL.out ?_) | (refine wpList_load_mid rfl 27 _ rfl wr.heap.size 0 rfl ce _ HRB.out Tryz.underlying27 (by rfl) HSZ.out ?_))
              refine (copyMethod_cs _ y ce _ HES).mono ?_
              rintro e w6 ⟨cs2, rfl, hE2, hb6⟩
              have hw5 := HB5.out.size
              have hwr : w4.heap.size ≤ wr.heap.size := HBW.out.size
              have HB6 := lhid (HB5.out.trans (Below.less hb6 hw5))
              have hX6 := (hb6.block _ (by rw [HS1.out]; omega)).trans HX5.out
              have hE3 : MeE (fun g => w.heap.size < g) w6 y cs2 := meE_mono (fun g hg _ => by have h1 := HS1.out; omega) _ _ hE2
              have hc2 := row_me _ _ _ _ hE3
              have hth2 : w6.there w.heap.size 0 8 := fun j hj => ⟨by
                rw [Nat.zero_add, heap_cell hX6 (Array.getElem?_eq_getElem (by simpa using hj))]; rfl, heap_thaw hX6 _⟩
              have HTH : Hid (w6.there w.heap.size 0 cs2.toArray.size) := lhid (by rw [show cs2.toArray.size = 8 by simpa using hc2.1]; exact hth2)
              have HSB : Hid ((Tryz.prog.info? 27).map (·.size) = some cs2.toArray.size) := lhid (by rw [show cs2.toArray.size = 8 by simpa using hc2.1]; exact sz_meK)
              have HAL2 : Hid (cs2.toArray.all (·.oneCell') = true) := lhid (all_oneCell_toArray hc2.2)
              have HRC : Hid ((w6.setCells w.heap.size 0 cs2).rangeAt w.heap.size 0 cs2) := lhid (World.rangeAt_setCells_same _ _ _ _ (by rw [hc2.1]; exact hth2))
              have hE4 : MeE (fun g => w.heap.size ≤ g) (w6.setCells w.heap.size 0 cs2) y cs2 := meE_mono (fun g hg _ => Nat.le_of_lt hg) _ _ (keptX_me _ _ _ _ _ (fun g hg _ => setCells_other (b := w.heap.size) (by omega) cs2 0 _) hE3)
              have HE4 := lhid hE4
              have HB7 := lhid (below_cells (b := w.heap.size) HB6.out (Nat.le_refl _) 0 cs2)
              obtain ⟨a2, b2, d2, hcs2, s1, s2, s3⟩ := hE3
              obtain ⟨xa2, da2, rfl⟩ := s1.shape
              obtain ⟨xb2, db2, rfl⟩ := s2.shape
              obtain ⟨xd2, dd2, rfl⟩ := s3.shape
              have r0 : (w6.setCells w.heap.size 0 cs2).cell? ⟨w.heap.size, 0, none⟩ = some (.int .i64 y.flags) := HRC.out 0 _ (by rw [hcs2]; rfl)
              have r1 : (w6.setCells w.heap.size 0 cs2).cell? ⟨w.heap.size, 1, none⟩ = some (.string (tx y.name)) := HRC.out 1 _ (by rw [hcs2]; rfl)
              have r2 : (w6.setCells w.heap.size 0 cs2).cell? ⟨w.heap.size, 2, none⟩ = some (.string (tx y.desc)) := HRC.out 2 _ (by rw [hcs2]; rfl)
              have r3 : (w6.setCells w.heap.size 0 cs2).cell? ⟨w.heap.size, 3, none⟩ = some (.int .i64 y.stack) := HRC.out 3 _ (by rw [hcs2]; rfl)
              have r4 : (w6.setCells w.heap.size 0 cs2).cell? ⟨w.heap.size, 4, none⟩ = some (.int .i64 y.locals) := HRC.out 4 _ (by rw [hcs2]; rfl)
              have r5 : (w6.setCells w.heap.size 0 cs2).cell? ⟨w.heap.size, 5, none⟩ = some (.slice xa2 y.code.length da2) := HRC.out 5 _ (by rw [hcs2]; rfl)
              have r6 : (w6.setCells w.heap.size 0 cs2).cell? ⟨w.heap.size, 6, none⟩ = some (.slice xb2 y.rows.length db2) := HRC.out 6 _ (by rw [hcs2]; rfl)
              have r7 : (w6.setCells w.heap.size 0 cs2).cell? ⟨w.heap.size, 7, none⟩ = some (.slice xd2 y.frames.length dd2) := HRC.out 7 _ (by rw [hcs2]; rfl)
              have HCS := lhid hcs2
              clear hE2 hb6 hX6 hc2 hth2 hE4 hcs2 s1 s2 s3
              go_wp2_with (refine wpList_store_mid rfl 27 _ _ rfl w.heap.size 0 cs2.toArray rfl rfl HTH.out HSB.out HAL2.out ?_)
              refine bodyPost_ret (v := .tuple #[.string (tx x), .agg #[.int .i64 y.flags, .string (tx y.name), .string (tx y.desc), .int .i64 y.stack, .int .i64 y.locals, .slice xa2 y.code.length da2, .slice xb2 y.rows.length db2, .slice xd2 y.frames.length dd2], .bool true]) (by simp [results, Tryz.results71, go_sem, r0, r1, r2, r3, r4, r5, r6, r7]) rfl ?_
              refine ⟨x, cs2, y, true, ?_, HE4.out, ⟨l1, l2, HLI.out, HAB.out, .inr ⟨by rw [HLL.out]; exact HHIT.out, rfl⟩⟩, HB7.out⟩
              rw [HCS.out]
            · have e2 := tx_nes hn2
              have HN3 := lhid (find_take HFJ.out HYJ.out (show methB n d y = false by unfold methB; simp [hn2]))
              clear hn1 hn2
              go_wp2_with (first | (refine wpList_load_mid rfl 27 _ rfl gb (ob + j * 8) rfl ce _ HRA.out Tryz.underlying27 (by rfl) HSZ.out ?_) | (refine wpList_store_mid rfl 27 _ _ rfl wr.heap.size 0 ce.toArray rfl rfl HTA.out HSA.out HALL.out ?_) | (refine wpList_load_mid rfl 27 _ rfl wr.heap.size 0 rfl ce _ HRB.out Tryz.underlying27 (by rfl) HSZ.out ?_))
              go_roundw
              case rel => exact ⟨j + 1, by go_num, by omega, HN3, HN5⟩
              case measure => simp [intOf]; omega
          · have e1 := tx_nes hn1
            have HN3 := lhid (find_take HFJ.out HYJ.out (show methB n d y = false by unfold methB; simp [hn1]))
            clear hn1
            go_wp2_with (first | (refine wpList_load_mid rfl 27 _ rfl gb (ob + j * 8) rfl ce _ HRA.out Tryz.underlying27 (by rfl) HSZ.out ?_) | (refine wpList_store_mid rfl 27 _ _ rfl wr.heap.size 0 ce.toArray rfl rfl HTA.out HSA.out HALL.out ?_) | (refine wpList_load_mid rfl 27 _ rfl wr.heap.size 0 rfl ce _ HRB.out Tryz.underlying27 (by rfl) HSZ.out ?_))
            go_roundw
            case rel => exact ⟨j + 1, by go_num, by omega, HN3, HN5⟩
            case measure => simp [intOf]; omega
        · have k4 : ¬ (j : Int) < c.methods.length := by omega
          have e : j = c.methods.length := by omega
          subst e
          have hno : methIn L n d x = none := by
            unfold methIn
            rw [HC.out]
            have := HFJ.out
            rw [List.take_length] at this
            simp [this]
          have HN2 := lhid (findSome_take HFN.out HXA.out hno)
          clear hno
          go_wp2_with fail
          go_roundw
          case rel => first | exact ⟨k + 1, by go_num, by omega, HN2, lhid (HB.out.trans (Below.less HBj.out hbs))⟩ | exact ⟨_, _, _, .int .i64 ((k : Int) + 1), ⟨k + 1, by go_num, by omega, HN2, lhid (HB.out.trans (Below.less HBj.out hbs))⟩, rfl, rfl, rfl, rfl⟩ | trace_state
          case measure => simp [intOf]; omega
    · have k3 : ¬ (k : Int) < l.length := by omega
      have e : k = l.length := by omega
      subst e
      have hX2 := (HB.out.block _ hlt4).trans HX4.out
      have hfin := HFN.out
      rw [List.take_length, ← HLL.out] at hfin
      have x0 := heap_cell (i := 0) hX2 rfl
      have x1 := heap_cell (i := 1) hX2 rfl
      have x2 := heap_cell (i := 2) hX2 rfl
      have x3 := heap_cell (i := 3) hX2 rfl
      have x4 := heap_cell (i := 4) hX2 rfl
      have x5 := heap_cell (i := 5) hX2 rfl
      have x6 := heap_cell (i := 6) hX2 rfl
      have x7 := heap_cell (i := 7) hX2 rfl
      have z0 := heap_thaw hX2 0
      have z1 := heap_thaw hX2 1
      have z2 := heap_thaw hX2 2
      have z3 := heap_thaw hX2 3
      have z4 := heap_thaw hX2 4
      have z5 := heap_thaw hX2 5
      have z6 := heap_thaw hX2 6
      have z7 := heap_thaw hX2 7
      clear hX2
      have HF := lhid hfin
      clear hfin
      go_wp2_with fail
      refine bodyPost_ret (v := .tuple #[.string ⟨#[]⟩, .agg #[.int .i64 0, .string ⟨#[]⟩, .string ⟨#[]⟩, .int .i64 0, .int .i64 0, .slice none 0 0, .slice none 0 0, .slice none 0 0], .bool false]) (by simp [results, Tryz.results71, go_sem, x0, x1, x2, x3, x4, x5, x6, x7]) rfl ?_
      exact ⟨[], [.int .i64 0, .string ⟨#[]⟩, .string ⟨#[]⟩, .int .i64 0, .int .i64 0, .slice none 0 0, .slice none 0 0, .slice none 0 0], zM, false, rfl, ⟨_, _, _, rfl, rdX_nil _ _ _ _ _ _ (fun _ => rfl), rdX_nil _ _ _ _ _ _ (fun _ => rfl), rdX_nil _ _ _ _ _ _ (fun _ => rfl)⟩, ⟨l1, l2, HLI.out, HAB.out, .inl ⟨HF.out, rfl, rfl, rfl⟩⟩, (((((((((HB4.out.trans (Below.less HB.out hw4)).setCell (p := ⟨w.heap.size, 0, none⟩) (Nat.le_refl _) _).setCell (p := ⟨w.heap.size, 1, none⟩) (Nat.le_refl _) _).setCell (p := ⟨w.heap.size, 2, none⟩) (Nat.le_refl _) _).setCell (p := ⟨w.heap.size, 3, none⟩) (Nat.le_refl _) _).setCell (p := ⟨w.heap.size, 4, none⟩) (Nat.le_refl _) _).setCell (p := ⟨w.heap.size, 5, none⟩) (Nat.le_refl _) _).setCell (p := ⟨w.heap.size, 6, none⟩) (Nat.le_refl _) _).setCell (p := ⟨w.heap.size, 7, none⟩) (Nat.le_refl _) _)⟩
end Go.Proofs.YtpdnonlelocfbaaGreatDoor
