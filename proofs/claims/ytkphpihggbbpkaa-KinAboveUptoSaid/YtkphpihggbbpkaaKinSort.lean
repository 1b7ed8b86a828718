/- slices.Sort of the call's own texts; Above. -/
import Derived.Test.YtkphpihggbbpkaaKinHolds2
import Derived.Test.YtkphpihggbbpkaaShelf2
import Derived.Sort.OwnSorted
namespace Go.Proofs.Ytkphpihggbbpkaa
open Go.RowKit Go Go.Maps
set_option linter.unusedVariables false

abbrev txV (l : List Bs) : List Value := l.map fun s => .string (tx s)
def sortB (l : List Bs) : List Bs := l.mergeSort fun x y => decide (x ≤ y)
theorem sortB_len (l : List Bs) : (sortB l).length = l.length := by unfold sortB; simp
theorem sortB_mem (l : List Bs) (z : Bs) : z ∈ sortB l ↔ z ∈ l := by unfold sortB; simp
theorem sort_own (B : Nat) (v : Value) (ss : List Bs) (w : World) (h : Hid (w.ownsRow B 9 1 v ss.length (txV ss))) (hl : ss.length ≤ 10000) :
    Calls Try.prog 27 #[v] w fun e w' => e = .returned (.tuple #[]) ∧ w'.ownsRow B 9 1 v ss.length (txV (sortB ss)) ∧ w.grownBy w' v.ownBlock := by
  rcases h.out.2 with ⟨rfl, h0⟩ | ⟨g, cap, cur, rfl, hbase, hb, h1, h2, h3, h4⟩
  · have : ss = [] := List.length_eq_zero_iff.1 h0
    subst this
    refine (Try.slices_Sort_string_none none 0 w).mono ?_
    rintro e w' ⟨rfl, rfl⟩
    exact ⟨rfl, by simpa [sortB] using h.out, ⟨rfl, rfl, rfl, Nat.le_refl _, fun _ _ _ => rfl⟩⟩
  · have hH := holds_of_block (ss := ss) hb (by rw [Nat.mul_one] at h4; exact h4)
    refine (Try.slices_Sort_string g 0 cap ss w hH (heap_lt hb) (by omega)).mono ?_
    rintro e w' ⟨rfl, n, os, rfl⟩
    refine ⟨rfl, ?_, grownBy_sorted _⟩
    have := ownsRow_sorted (n := n) (os := os) (ss := ss) (ts := sortB ss) (by unfold sortB; simp) hbase hb h1 h2 (by omega)
    exact this
theorem run_sv {w : World} {sb : Nat} {S : List Bs} (h : SV w sb S) : ∃ D : DataW Value, w.ownsMap Try.prog 9 hv sb S.length D ∧ ∀ s : Bs, s.length ≤ maxLen → has D (litS s) = decide (s ∈ S) := by
  obtain ⟨_, D, h1, h2⟩ := h
  refine ⟨D, h1, fun s hs => ?_⟩
  rw [(h2 s hs).1]
  by_cases e : s ∈ S <;> simp [e]
theorem rows_tx (w : World) : ∀ l : List Bs, RowsE 1 (StE w) l (txV l)
  | [] => rowsE_nil _ _
  | s :: l => by
    have := (rowsE_one (k := 1) (E := StE w) (a := s) (c := [.string (tx s)]) rfl rfl).app (rows_tx w l)
    simpa [txV] using this
/-- What Above answers. -/
def AboveOut (L : List ClI) (s : Bs) (w : World) (e : Ending) (w' : World) : Prop :=
  ∃ v l, e = .returned v ∧ RdX (fun g => w.heap.size ≤ g) 1 StE w' v l ∧ (∃ l0 : List Bs, l = sortB l0 ∧ l0.Nodup) ∧ (∀ z, z ∈ l ↔ s ∈ names L ∧ Rch L s z) ∧ Below w.heap.size w w'
set_option maxHeartbeats 16000000 in
set_option maxRecDepth 100000 in
theorem above_any (B tb : Nat) (L : List ClI) (s : Bs) (w : World) (hT : Hid (TreeOK B w tb L)) (hs : s.length ≤ maxLen) (hL : L.length ≤ 100) (hSh : Short L) (hIn : Hid (∀ z, s ∈ names L → Rch L s z → z ∈ names L)) :
    Calls Try.prog 10 #[.pointer (some ⟨tb, 0, none⟩), .string (tx s)] w (AboveOut L s w) := by
  obtain ⟨i0, hi, hz0, hz1, hz2⟩ := info_parts info_st
  obtain ⟨⟨cb, ab, n, v0, g1, g2, g3, f, hm, hfs⟩, g6⟩ := hT.out
  have t2 := heap_cell (i := 2) g1 rfl
  by_cases hn : s ∈ names L
  · obtain ⟨sb, S, q3, q4, q5, q6⟩ := (hfs s).1 hn
    have HN := lhid hn
    have hlk : (Instr.lookup 59 (.map (some ab)) (.string (tx s)) false).run Try.prog w = .ok (.map (some sb)) w := by
      have := (hm.look und_am (zero_set w) hs).1
      rw [q3] at this
      exact this
    obtain ⟨D, hown, hD⟩ := run_sv q4
    have HD := lhid hD
    have HND := lhid q4.1
    have HQ6 := lhid q6
    have hSl : S.length ≤ 100 := by
      have e1 := nodup_len S (names L) q4.1 (fun x hx => hIn.out x hn ((q6 x).1 hx))
      have e2 : (names L).length = L.length := by unfold names; rw [List.length_map]
      omega
    have hsbl := hown.lt
    clear hD q3 q4 q5 q6 g1 g2 g3 hm hfs hn
    go_enter Try.func10, Try.ntmps10
    go_wp2_with (at_range; refine wpList_range_own _ rfl _ 67 rfl 9 106 lawS und_set hv sb S.length D rfl hown ?_)
    intro w0 hrg0 hg0 hs0
    have HRG0 := lhid hrg0
    have HB0 : Hid (Below w.heap.size w w0) := lhid (Below.grown (Below.refl _ _) hg0 (Nat.le_refl _) (fun k hk => by cases hk))
    have HSZ := lhid hown.size_le
    clear hg0 hlk t2 hrg0
    go_wp2_with fail
    go_loopw [5] (fun v wr => ∃ (left : Lit → Bool) (cnt : Nat) (l : List Bs), Hid (wr.ranges Try.prog 9 hv sb w.heap.size S.length D left cnt) ∧ l.length + cnt ≤ S.length ∧ l.Nodup ∧ Hid (∀ x : Bs, x.length ≤ maxLen → (x ∈ l ↔ has D (litS x) = true ∧ left (litS x) = false)) ∧ Hid (∀ kl, left kl = true → has D kl = true) ∧ Hid (∀ x ∈ l, x.length ≤ maxLen) ∧ Hid (wr.ownsRow (w.heap.size + 1) 9 1 v l.length (txV l)) ∧ Hid (Below w.heap.size w wr)) (fun _ wr => wr.rangeLeft sb w.heap.size)
    case atStart => exact ⟨_, _, [], HRG0, by simpa using HSZ.out, List.nodup_nil, lhid (fun x _ => by constructor; (intro h; cases h); (rintro ⟨h1, h2⟩; rw [h1] at h2; cases h2)), lhid (fun _ h => h), lhid (by simp), lhid (World.ownsRow_nil _ _ _ _), HB0⟩
    case round =>
      obtain ⟨left, cnt, l, HRG, hcnt, hnd, HLL, HLH, HLS, HV, HB⟩ := hrel
      have hbs := HB.out.size
      have hr0 : w.heap.size < wr.heap.size := HRG.out.lt
      have HNDl := lhid hnd
      clear hnd
      go_wp2_with (at_next; refine wpList_next_ranges _ rfl _ rfl 9 lawS hv (fun x : Bs => .string (tx x)) (fun v : Value => v) (fun key kl hk => (key_inv hk).imp fun x hx => hx.1) (fun v y _ => ⟨v, rfl⟩) sb w.heap.size S.length D left cnt rfl HRG.out ?b1 ?b2)
      case b1 =>
        intro hc0 hl0
        have HL0 := lhid hl0
        clear hl0
        go_wp2_with fail
        with_reducible refine (sort_own (w.heap.size + 1) _ l _ HV (by omega)).mono ?_
        rintro e w2 ⟨rfl, ho2, hg2⟩
        have HO2 := lhid ho2
        have HB2 := lhid (Below.grown HB.out hg2 hbs (fun k hk => by have := own_lt HV.out k hk; omega))
        clear ho2 hg2
        go_wp2_with fail
        go_ret
        refine ⟨_, sortB l, rfl, (rdX_own (E := StE) (l := sortB l) (by rw [sortB_len]; exact HO2.out) (by rw [sortB_len]; omega) (rows_tx _ _)).any (fun g hg => by have := hg.1; omega), ⟨l, rfl, HNDl.out⟩, fun z => ?_, HB2.out⟩
        rw [sortB_mem]
        constructor
        · intro hz
          have h1 := (HLL.out z (HLS.out z hz)).1 hz
          rw [HD.out z (HLS.out z hz)] at h1
          exact ⟨HN.out, (HQ6.out z).1 (by simpa using h1.1)⟩
        · rintro ⟨_, hz⟩
          have hzl := short_name hSh (hIn.out z HN.out hz)
          refine (HLL.out z hzl).2 ⟨?_, HL0.out _⟩
          rw [HD.out z hzl]
          simpa using (HQ6.out z).2 hz
      case b2 =>
        intro x c kl y1 y2 w1 cnt' hkey hlk hv0 hat hrg1 hlt hg1 hs1 hen
        obtain ⟨x', hx', rfl, hxl⟩ := key_inv hkey
        obtain rfl : x = x' := by injection hx' with hx'; exact tx_inj hx'
        have HLK := lhid hlk
        have HRG1 := lhid hrg1
        have HS1 := lhid hs1
        have HV1 := lhid (own_of HV.out fun g hg => hg1.block g (HV.out.lt g hg).2 (fun e => by injection e with e; have := own_lt HV.out g hg; omega))
        have HB1 := lhid (Below.grown HB.out hg1 hbs (fun k hk => by injection hk with hk; omega))
        have h1s : w.heap.size < w1.heap.size := by omega
        clear hkey hlk hv0 hat hrg1 hx' hg1 hs1
        go_wp2_with (at_builtin; refine wpList_append_own _ rfl _ _ 29 rfl (w.heap.size + 1) 9 i0 (.string ⟨#[]⟩) 1 16 Try.underlying29 hi hz0 hz1 hz2 rfl (by decide) _ l.length (txV l) rfl (HV1.out.alloc _) ⟨w1.heap.size, 0, none⟩ 1 1 [.string (tx x)] rfl rfl (new_cells _ _ _) ?a2 ?a3 ?a4 ?a5 ?_)
        case a2 => simp [Value.oneCell']
        case a3 => unfold maxLen; omega
        case a4 => omega
        case a5 => simp; omega
        intro v2 w2 hown2 hgrow hnil
        have HV2 := lhid hown2
        have HB2 := lhid (Below.grown (HB1.out.alloc (by omega) _) hgrow (by simp; omega) (fun k hk => by have := own_lt HV1.out k hk; omega))
        have HRG2 := lhid ((HRG1.out.alloc _).kept hgrow (fun e => by have := own_lt HV1.out _ e.symm; omega) (fun e => by have := own_lt HV1.out _ e.symm; omega))
        clear hown2 hgrow hnil hen
        go_wp2_with fail
        go_roundw
        case rel =>
          have hxn : x ∉ l := fun h => by
            have := ((HLL.out x hxl).1 h).2
            rw [HLK.out] at this
            cases this
          refine ⟨_, cnt', l ++ [x], HRG2, by simp; omega, ?_, lhid (fun z hz => ?_), lhid (fun kl h => HLH.out kl (by simp only [Bool.and_eq_true] at h; exact h.1)), lhid (fun z hz => ?_), lhid (by simpa [txV] using HV2.out), HB2⟩
          · rw [List.nodup_append]
            refine ⟨HNDl.out, by simp, fun a ha b hb e => ?_⟩
            simp at hb
            subst hb
            subst e
            exact hxn ha
          · rw [List.mem_append, List.mem_singleton, same_lit]
            by_cases e : z = x
            · subst e
              simp [HLH.out _ HLK.out]
            · simp [e, HLL.out z hz]
          · rcases List.mem_append.1 hz with hz | hz
            · exact HLS.out z hz
            · simp at hz
              rw [hz]
              exact hxl
        case measure =>
          rw [HRG2.out.left_eq, HRG.out.left_eq]
          omega
  · have HN := lhid hn
    have hlk : (Instr.lookup 59 (.map (some ab)) (.string (tx s)) false).run Try.prog w = .ok (.map none) w := by
      have := (hm.look und_am (zero_set w) hs).1
      rw [(hfs s).2 hn] at this
      exact this
    clear g1 g2 g3 hm hfs hn
    have hr := fun w' => run_range_nilMap (P := Try.prog) w' 67 9 106 und_set
    go_enter Try.func10, Try.ntmps10
    have hnx := fun ty => run_next_nilMap (P := Try.prog) w ty 0 0 #[]
    have HB0 : Hid (Below w.heap.size w (w.alloc (.mapIter none 0 #[] 0))) := lhid ((Below.refl _ _).alloc (Nat.le_refl _) _)
    go_wp2_with fail
    go_loopw [5] (fun v wr => v = .slice none 0 0 ∧ wr = w.alloc (.mapIter none 0 #[] 0)) (fun _ _ => 0)
    case atStart => exact ⟨rfl, rfl⟩
    case round =>
      obtain ⟨rfl, rfl⟩ := hrel
      go_wp2_with fail
      with_reducible refine (Try.slices_Sort_string_none none 0 _).mono ?_
      rintro e w2 ⟨rfl, rfl⟩
      go_wp2_with fail
      go_ret
      exact ⟨_, [], rfl, rdX_nil _ _ _ _ _ _ (fun _ => rfl), ⟨[], by simp [sortB], List.nodup_nil⟩, fun z => by simp [HN.out], HB0.out⟩
end Go.Proofs.Ytkphpihggbbpkaa
