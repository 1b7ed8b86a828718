/- Package check: push. -/
import Derived.Test.YtpdnonlelocfbaaGreatDoorM3
import Derived.Deep.Cut
namespace Go.Proofs.YtpdnonlelocfbaaGreatDoor
open Go.RowKit Go Go.Maps
set_option linter.unusedVariables false
theorem infoSt : (Tryz.prog.info? 9).map (fun i => (i.zero, i.size, i.bytes)) = some (some (.string ⟨#[]⟩), 1, 16) := by kernel_rfl
theorem infoSt_parts : ∃ i, Tryz.prog.info? 9 = some i ∧ i.zero = some (.string ⟨#[]⟩) ∧ i.size = 1 ∧ i.bytes = 16 := by
  have h := infoSt
  cases hi : Tryz.prog.info? 9 with
  | none => rw [hi] at h; cases h
  | some i =>
    rw [hi] at h
    simp at h
    exact ⟨i, rfl, h.1, h.2.1, h.2.2⟩
section
variable {E : Chk} {Z : Nat → Prop} {wT : World} {c : Nat} {F : Fx} {N : Nat} {s : Cs} {kn : Bool} {st : Value} {w : World}
def Cs.pushL (s : Cs) (E : Chk) (ts : List Bs) : Cs := ts.foldl (fun s t => s.push E t) s
/-- Block g isn't the stack's. -/
def Ap (w : World) (c g : Nat) : Prop := ∀ (cs : Array Value) (t : TypeId) (f : Nat × Nat) (v : Value), w.heap[c]? = some (.cells cs t f) → cs[21]? = some v → v.ownBlock ≠ some g
theorem push_cases (s : Cs) (E : Chk) (t : Bs) : s.push E t = if (s.refuse (decide (E.room ≤ s.stk.length)) 61).flt = 0 then { (s.refuse (decide (E.room ≤ s.stk.length)) 61) with stk := s.stk ++ [t] } else s.refuse (decide (E.room ≤ s.stk.length)) 61 := by
  unfold Cs.push
  dsimp only
  rw [(refuse_cases _ _ _).2]
theorem room_eq {b : Bool} {n r : Nat} {m : Int} (hm : m = r) (h : decide (r ≤ n) = b) : decide (m ≤ (n : Int)) = b := by
  rw [← h, Bool.eq_iff_iff, decide_eq_true_iff, decide_eq_true_iff]
  omega
set_option maxHeartbeats 4000000 in
set_option maxRecDepth 100000 in
theorem pushL_c (HE : Hid (Env E F.tb wT)) (ts : List Bs) (w1 : World) (g : Nat) (HC : Hid (Ck E Z wT c F N s kn st w)) (hR : F.ms = E.room) (HB : Hid (Below w.heap.size w w1)) (HG : Hid (w1.heap[g]? = some (.cells (lnV ts).toArray 9 (0, 0)))) (hg : w.heap.size ≤ g) (hts : ∀ t ∈ ts, t.length ≤ ML) (n : Nat) (hn : n = ts.length) (hn2 : n ≤ 40) :
    Calls Tryz.prog 209 #[.pointer (some ⟨c, 0, none⟩), .slice (some ⟨g, 0, none⟩) n n] w1 (CkOut E Z wT c F N (s.pushL E ts) kn st w (.returned (.tuple #[]))) := by
  obtain ⟨i0, hi, hz0, hz1, hz2⟩ := infoSt_parts
  have hrm := HE.out.l_room
  have HTS := lhid hts
  have HR := lhid hR
  have hap : Ap w1 c g := by
    obtain ⟨vl, vs, hc, hl, hs, _⟩ := HC.out.it
    intro cs t f v h1 h2
    rw [HB.out.block _ (heap_lt hc), hc] at h1
    injection h1 with h1
    injection h1 with h1 _ _
    subst h1
    have : v = vs := by
      have := h2
      simpa using this.symm
    subst this
    intro e
    have := (hs.row.lt g e).2
    omega
  have HAP := lhid hap
  clear hts hR hap
  have HM := lhid hn
  clear hn
  go_enter Tryz.func209, Tryz.ntmps209
  go_wp2_with fail
  go_loopw [8] (fun i wr => ∃ k : Nat, i = .int .i64 k ∧ k ≤ n ∧ ∃ s' : Cs, Hid (s' = s.pushL E (ts.take k)) ∧ Hid (Ck E Z wT c F N s' kn st wr) ∧ Hid (Ap wr c g) ∧ Hid (wr.heap[g]? = some (.cells (lnV ts).toArray 9 (0, 0))) ∧ Hid (Ch Z w wr)) (fun i _ => n - (intOf i).toNat)
  case atStart => exact ⟨0, rfl, Nat.zero_le _, s, lhid (by simp [Cs.pushL]), lhid (HC.out.below HB.out), HAP, HG, lhid (Ch.of HB.out)⟩
  case round =>
    obtain ⟨k, rfl, hk, s', HS, HK, HA, HGr, HCH⟩ := hrel
    by_cases hlt : k < n
    · obtain ⟨t, ht⟩ : ∃ t, ts[k]? = some t := ⟨_, List.getElem?_eq_getElem (by have := HM.out; omega)⟩
      have g0 : wr.cell? ⟨g, k, none⟩ = some (.string (tx t)) := heap_cell HGr.out (by simp [lnV, ht])
      have htl := lhid (HTS.out t (List.mem_of_getElem? ht))
      have HN : Hid (s.pushL E (ts.take (k + 1)) = s'.push E t) := lhid (by rw [List.take_add_one, ht, HS.out]; simp [Cs.pushL])
      have k3 : (k : Int) < n := by omega
      obtain ⟨vl, vs, hc, hl, hs, hd⟩ := HK.out.it
      obtain ⟨A, cap, rfl⟩ := own_shape hs.row
      have c21 : wr.cell? ⟨c, 21, none⟩ = some (.slice A s'.stk.length cap) := heap_cell hc rfl
      have c11 : wr.cell? ⟨c, 11, none⟩ = some (.int .i64 F.ms) := heap_cell hc rfl
      have hmax := own_max hs.row
      unfold maxLen at hmax
      obtain ⟨b, hb⟩ : ∃ b, decide (E.room ≤ s'.stk.length) = b := ⟨_, rfl⟩
      have HBB := lhid hb
      have HTT := lhid ht
      rw [HR.out] at c11
      have hc0 := hc
      clear hc hl hs hd hb ht
      go_upto_region 3 with fail
      have HD := lhid HK.out.drew
      go_region_held3 (fun w' => w'.cell? ⟨c, 21, none⟩ = some (.slice A s'.stk.length cap) ∧ w'.cell? ⟨c, 11, none⟩ = some (.int .i64 E.room)) (first | exact ⟨c21, c11⟩ | exact ⟨(hcc 21 (by decide)).trans c21, (hcc 11 (by decide)).trans c11⟩) (first
        | ((with_reducible refine (refuse_k HD HBB.out 61).mono ?_); rintro e w3 ⟨⟨rfl, hk3, hc3⟩, hcb, hcc⟩))
      have hHCH3 : Ch Z w w3 := HCH.out.drew.tr hc3
      have hgc : g ≠ c := fun e => by
        have h1 := HGr.out
        rw [e, hc0] at h1
        injection h1 with h1
        injection h1 with _ h1 _
        revert h1
        decide
      have hG3 : w3.heap[g]? = some (.cells (lnV ts).toArray 9 (0, 0)) := (hcb.block g (heap_lt HGr.out) hgc).trans HGr.out
      have HCH3 := lhid hHCH3
      have HG3 := lhid hG3
      have HK3 := lhid hk3
      have c23 := hk3.flt
      have hst := (refuse_cases s' b 61).2
      have hPC := push_cases s' E t
      rw [HBB.out] at hPC
      have hbz : (s'.refuse b 61).flt = 0 → b = false := fun h => (refuse_none (by decide) h).2
      obtain ⟨vl, vs, hc, hl, hs, hd⟩ := hk3.it
      obtain ⟨s1, hs1⟩ : ∃ x, s'.refuse b 61 = x := ⟨_, rfl⟩
      rw [hs1] at hst hPC hbz c23 HK3 hc hl hs
      have HPC := lhid hPC
      have HBZ := lhid hbz
      have HST := lhid hst
      have c21' := (hcc 21 (by decide)).trans c21
      have hvs : vs = .slice A s'.stk.length cap := by
        have h1 := heap_cell (i := 21) hc (v := vs) rfl
        rw [c21'] at h1
        injection h1 with h1
        exact h1.symm
      subst hvs
      have hAne : (Value.slice A s'.stk.length cap).ownBlock ≠ some g := HA.out _ _ _ _ hc0 rfl
      have HAN := lhid hAne
      have hstd := HK3.out.std.size
      clear hk3 hc3 hcb hcc hHCH3 hgc hG3 hst hPC hbz hs1 c21 c11 hAne c21'
      by_cases h0 : s1.flt = 0
      · have hb0 := HBZ.out h0
        have hlr : s'.stk.length < 20 := by
          have h1 := HBB.out
          rw [hb0, decide_eq_false_iff_not] at h1
          omega
        have c21 : w3.cell? ⟨c, 21, none⟩ = some (.slice A s'.stk.length cap) := heap_cell hc rfl
        have hHN : s.pushL E (ts.take (k + 1)) = { s1 with stk := s1.stk ++ [t] } := by rw [HN.out, HPC.out, if_pos h0, HST.out]
        have HN2 := lhid hHN
        have hrow : w3.ownsRow wT.heap.size 9 1 (.slice A s'.stk.length cap) s'.stk.length (lnV s'.stk) := by have := hs.row; rw [HST.out] at this; exact this
        have HRW := lhid hrow
        have HIT : Hid (w3.heap[c]? = some (.cells (ckA F vl (.slice A s'.stk.length cap) kn s1.flt st) 107 (0, 0)) ∧ Ow Z wT.heap.size w3 vl s1.loc ∧ Ow Z wT.heap.size w3 (.slice A s'.stk.length cap) s1.stk ∧ ∀ k, vl.ownBlock = some k → (Value.slice A s'.stk.length cap).ownBlock ≠ some k) := lhid ⟨hc, hl, hs, hd⟩
        rw [h0] at c23
        have hca : (w3.alloc (.cells #[.string (tx t)] 9)).heap[c]? = some (.cells (ckA F vl (.slice A s'.stk.length cap) kn s1.flt st) 107 (0, 0)) := (Below.heap_alloc _ _ _ (heap_lt hc)).trans hc
        have hone : ow_ne hs hc = ow_ne hs hc := rfl
        have hON := lhid (ow_ne hs hc)
        have HCA := lhid hca
        clear hc hl hs hd hHN hrow h0 hca hone
        go_wp2_with (at_builtin; refine wpList_append_lies _ rfl _ _ 34 rfl wT.heap.size 9 i0 (.string ⟨#[]⟩) 1 16 Tryz.underlying34 hi hz0 hz1 hz2 rfl (by decide) _ s'.stk.length (lnV s'.stk) rfl (HRW.out.alloc _) ⟨w3.heap.size, 0, none⟩ 1 1 [.string (tx t)] rfl rfl (new_cells _ _ _) ?a2 (by decide) ?a3 ?a4 ?a5 _ rfl ?_)
        case a2 => rfl
        case a3 => unfold maxLen; omega
        case a4 => omega
        case a5 => omega
        intro g2 cap2 w4 hown hgrow hat hlt4
        have hc4 : w4.heap[c]? = some (.cells (ckA F vl (.slice A s'.stk.length cap) kn s1.flt st) 107 (0, 0)) := (hgrow.block c (heap_lt HCA.out) (fun e => hON.out e.symm)).trans HCA.out
        have q21 := heap_cell (i := 21) hc4 rfl
        have z21 := heap_thaw hc4 21
        have hgl3 := heap_lt HG3.out
        have hg4 : w4.heap[g]? = some (.cells (lnV ts).toArray 9 (0, 0)) := (hgrow.block g (by simp; omega) (fun e => HAN.out e.symm)).trans ((Below.heap_alloc _ _ _ hgl3).trans HG3.out)
        have hgne : g2 ≠ g := fun e => by
          rcases hat with h | h
          · exact HAN.out (by rw [h, e])
          · omega
        have hK4 := HK3.out.grow (vl := vl) (vs := .slice A s'.stk.length cap) HIT.out.1 HIT.out.2.1 HIT.out.2.2.1 HIT.out.2.2.2 ((Below.refl _ w3).alloc (Nat.le_refl _) (.cells #[.string (tx t)] 9)) hgrow (g := g2) (m := s'.stk.length + 1) (cap := cap2) (t := t) (by rw [HST.out]; simp) (by rw [HST.out]; exact hown) (hat.imp id fun e => by omega) htl.out
        have HK4 := lhid hK4
        have HC4 := lhid hc4
        have HG4 := lhid hg4
        have HGN := lhid hgne
        clear hown hgrow hat hlt4 hc4 hK4 hg4 hgne
        go_wp2_with fail
        go_roundw
        case rel => exact ⟨k + 1, by go_num, by omega, { s1 with stk := s1.stk ++ [t] }, lhid HN2.out.symm, lhid HK4.out.1, lhid (fun cs t f v h1 h2 => by
          rw [heap_set HC4.out] at h1
          injection h1 with h1
          injection h1 with h1 _ _
          subst h1
          have : v = .slice (some ⟨g2, 0, none⟩) (s'.stk.length + 1) cap2 := by simpa using h2.symm
          subst this
          exact fun e => HGN.out (by injection e)), lhid ((Below.heap_setCell _ _ _ _ (fun (e : g = c) => by
            have h1 := HC4.out
            rw [← e, HG4.out] at h1
            injection h1 with h1
            injection h1 with _ h1 _
            revert h1
            decide)).trans HG4.out), lhid (HCH3.out.tr HK4.out.2)⟩
        case measure => simp [intOf]; omega
      · have hHN : s.pushL E (ts.take (k + 1)) = s1 := by rw [HN.out, HPC.out, if_neg h0]
        have HN2 := lhid hHN
        have HA3 : Hid (Ap w3 c g) := lhid (fun cs t f v h1 h2 => by
          rw [hc] at h1
          injection h1 with h1
          injection h1 with h1 _ _
          subst h1
          have : v = .slice A s'.stk.length cap := by simpa using h2.symm
          subst this
          exact HAN.out)
        clear hc hl hs hd hHN
        go_wp2_with fail
        go_roundw
        case rel => exact ⟨k + 1, by go_num, by omega, s1, lhid HN2.out.symm, HK3, HA3, HG3, HCH3⟩
        case measure => simp [intOf]; omega
    · have HS2 : Hid (s' = s.pushL E ts) := lhid (by rw [HS.out, List.take_of_length_le (by have := HM.out; omega)])
      have k3 : ¬ (k : Int) < n := by omega
      go_wp2_with fail
      go_end0
      rw [← HS2.out]
      exact ⟨rfl, HK.out, HCH.out⟩
end
end Go.Proofs.YtpdnonlelocfbaaGreatDoor
