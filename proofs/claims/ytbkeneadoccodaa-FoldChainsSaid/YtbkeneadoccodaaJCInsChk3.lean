/- Contracts of argsFit, hasObject, slices.Index, slices.Contains. -/
import Derived.Test.YtbkeneadoccodaaM5
import Derived.Test.YtbkeneadoccodaaM6
import Derived.BigQuiet
namespace Go.Proofs.Ytbkeneadoccodaa
open Go.RowKit Go
set_option linter.unusedVariables false
set_option linter.unusedSimpArgs false
theorem rd_cell {P : Nat → Prop} {w : World} {A : Option Addr} {n cap : Nat} {l : List Int} {i : Nat} {z : Int} (h : RdX P 1 NuE w (.slice A n cap) l) (hi : l[i]? = some z) : ∃ g o, A = some ⟨g, o, none⟩ ∧ P g ∧ w.cell? ⟨g, o + i, none⟩ = some (.int .i64 z) := by
 obtain ⟨g, o, cc, rfl, hP, hE, hc⟩ := h.at' hi
 have := hc 0 (.int .i64 z) (by rw [hE]; rfl)
 rw [Nat.mul_one] at this
 exact ⟨g, o, rfl, hP, this⟩
set_option maxHeartbeats 1000000 in
set_option maxRecDepth 100000 in
theorem index_any {P : Nat → Prop} (v : Value) (l : List Int) (c : Int) (w : World) (h : Hid (RdX P 1 NuE w v l)) :
  Calls Try.prog 108 #[v, .int .i64 c] w fun e w' => (∃ i : Int, e = .returned (.int .i64 i) ∧ decide (0 ≤ i) = decide (c ∈ l)) ∧ w = w' := by
 obtain ⟨A, cap, rfl⟩ := h.out.shape
 have hl := h.out.len
 go_enter Try.func108, Try.ntmps108
 go_wp2_with fail
 go_loopw [8] (fun i wr => ∃ k : Nat, i = .int .i64 k ∧ k ≤ l.length ∧ Hid (c ∉ l.take k) ∧ wr = w) (fun i _ => l.length - (intOf i).toNat)
 case atStart => exact ⟨0, rfl, Nat.zero_le _, lhid (by simp), rfl⟩
 case round =>
  obtain ⟨k, rfl, hk, HN, rfl⟩ := hrel
  by_cases hlt : k < l.length
  ·obtain ⟨x, hx⟩ : ∃ x, l[k]? = some x := ⟨_, List.getElem?_eq_getElem hlt⟩
   obtain ⟨g, o, rfl, _, c0⟩ := rd_cell h.out hx
   have k3 : (k : Int) < l.length := by omega
   have HX := lhid hx
   clear hx
   by_cases hxc : c = x
   ·have HM := lhid (List.mem_of_getElem? HX.out)
    have d0 : (c == x) = true := by rw [hxc]; simp
    have HXC := lhid hxc
    clear hxc
    go_wp2_with fail
    go_ret
    exact ⟨⟨_, rfl, by rw [HXC.out, decide_eq_true HM.out]; simp⟩, rfl⟩
   ·have d0 : (c == x) = false := by rw [beq_eq_false_iff_ne]; exact hxc
    have HM2 : Hid (c ∉ l.take (k + 1)) := lhid (by rw [List.take_add_one, HX.out]; simp only [Option.toList_some, List.mem_append, List.mem_singleton, not_or]; exact ⟨HN.out, hxc⟩)
    clear hxc
    go_wp2_with fail
    go_roundw
    case rel => exact ⟨k + 1, by go_num, by omega, HM2, trivial⟩
    case measure => simp [intOf]; omega
  ·have k3 : ¬ (k : Int) < l.length := by omega
   have hn := HN.out
   rw [List.take_of_length_le (by omega)] at hn
   have HN2 := lhid hn
   clear hn HN
   go_wp2_with fail
   go_ret
   exact ⟨⟨_, rfl, ⟨fun h => absurd h (by decide), fun h => absurd h HN2.out⟩⟩, rfl⟩
set_option maxRecDepth 100000 in
theorem contains_r {P : Nat → Prop} (v : Value) (l : List Int) (c : Int) (z : Bool) (w : World) (h : Hid (RdX P 1 NuE w v l)) (hz : Hid (decide (c ∈ l) = z)) :
  Calls Try.prog 80 #[v, .int .i64 c] w fun e w' => e = .returned (.bool z) ∧ w = w' := by
 have HI := lhid (index_any v l c w h)
 rw [hz.out] at HI
 go_enter Try.func80, Try.ntmps80
 go_wp2_with fail
 refine HI.out.mono ?_
 rintro e w1 ⟨⟨i, rfl, hi⟩, rfl⟩
 have Hi := lhid hi
 clear hi
 go_wp2_with fail
 go_ret
 exact ⟨ret_bool Hi.out, rfl⟩
theorem argsB_take (rs l : List Int) (k : Nat) (z : Int) (hz : l[k]? = some z) (h : (l.take k).all (inB rs) = true) : (l.take (k + 1)).all (inB rs) = inB rs z := all_step hz h
set_option maxHeartbeats 1000000 in
set_option maxRecDepth 100000 in
theorem argsFit_any {P Q : Nat → Prop} (rs l : List Int) (fa fb : Value) (ret : Int) (fd fe v : Value) (w : World) (h : Hid (RdX P 1 NuE w fa rs)) (hl : Hid (RdX Q 1 NuE w v l)) :
  Calls Try.prog 113 #[fuL fa fb ret fd fe, v] w fun e w' => e = .returned (.bool (argsB rs l)) ∧ Below w.heap.size w w' := by
 obtain ⟨A, cap, rfl⟩ := hl.out.shape
 obtain ⟨R, rcap, rfl⟩ := h.out.shape
 have hll := hl.out.len
 by_cases h21 : 21 < l.length
 ·have q0 : (21 : Int) < l.length := by omega
  have HA := lhid (show argsB rs l = false by unfold argsB; rw [decide_eq_false (by omega)]; rfl)
  clear h21
  go_enter Try.func113, Try.ntmps113
  go_wp2_with fail
  go_ret
  exact ⟨by rw [HA.out]; rfl, (Below.refl w.heap.size w).alloc (Nat.le_refl _) _⟩
 have q0 : ¬ (21 : Int) < l.length := by omega
 have HA := lhid (show argsB rs l = l.all (inB rs) by unfold argsB; rw [decide_eq_true (by omega)]; rfl)
 have HL := lhid h21
 clear h21
 go_enter Try.func113, Try.ntmps113
 go_wp2_with fail
 go_loopw [12] (fun i wr => ∃ k : Nat, i = .int .i64 k ∧ k ≤ l.length ∧ Hid ((l.take k).all (inB rs) = true) ∧ Hid (Below w.heap.size w wr) ∧ Hid (FBox wr w.heap.size (.slice R rs.length rcap) fb ret fd fe)) (fun i _ => l.length - (intOf i).toNat)
 case atStart => exact ⟨0, rfl, Nat.zero_le _, lhid (by simp), lhid ((Below.refl w.heap.size w).alloc (Nat.le_refl _) _), lhid (heap_alloc_new w _)⟩
 case round =>
  obtain ⟨k, rfl, hk, HN, HB, HF⟩ := hrel
  obtain ⟨p0, p1, p2, p3, p4⟩ := HF.out.cells
  by_cases hlt : k < l.length
  ·obtain ⟨x, hx⟩ : ∃ x, l[k]? = some x := ⟨_, List.getElem?_eq_getElem hlt⟩
   obtain ⟨g, o, rfl, _, c0⟩ := rd_cell (hl.out.below (keptX_nu _) HB.out) hx
   have k3 : (k : Int) < l.length := by omega
   have HX := lhid hx
   cases hb : inB rs x with
   | true =>
    have HI := lhid hb
    unfold inB at HI
    have HM2 : Hid ((l.take (k + 1)).all (inB rs) = true) := lhid (by rw [argsB_take rs l k x HX.out HN.out, hb])
    clear hx hb
    go_wp2_with fail
    with_reducible refine (isAt_r _ _ true _ HI).mono ?_
    rintro e w1 ⟨rfl, rfl⟩
    go_wp2_with fail
    go_roundw
    case rel => exact ⟨k + 1, by go_num, by omega, HM2, HB, HF⟩
    case measure => simp [intOf]; omega
   | false =>
    have HI := lhid hb
    unfold inB at HI
    have HM2 := lhid (all_bad HX.out hb)
    clear hx hb
    go_wp2_with fail
    with_reducible refine (isAt_r _ _ false _ HI).mono ?_
    rintro e w1 ⟨rfl, rfl⟩
    go_wp2_with fail
    go_ret
    exact ⟨by rw [HA.out, HM2.out]; rfl, HB.out⟩
  ·have k3 : ¬ (k : Int) < l.length := by omega
   have hn := HN.out
   rw [List.take_of_length_le (by omega)] at hn
   have HN2 := lhid hn
   clear hn HN
   go_wp2_with fail
   go_ret
   exact ⟨by rw [HA.out, HN2.out]; rfl, HB.out⟩
theorem argsFit_r {P Q : Nat → Prop} (rs l : List Int) (fa fb : Value) (ret : Int) (fd fe v : Value) (z : Bool) (w : World) (h : Hid (RdX P 1 NuE w fa rs)) (hl : Hid (RdX Q 1 NuE w v l)) (hz : Hid (argsB rs l = z)) :
  Calls Try.prog 113 #[fuL fa fb ret fd fe, v] w fun e w' => e = .returned (.bool z) ∧ Below w.heap.size w w' := by
 have := argsFit_any rs l fa fb ret fd fe v w h hl
 rwa [hz.out] at this
set_option maxHeartbeats 1000000 in
set_option maxRecDepth 100000 in
theorem hasObject_any {P Q : Nat → Prop} (rs l : List Int) (fa fb : Value) (ret : Int) (fd fe v : Value) (w : World) (h : Hid (RdX P 1 NuE w fa rs)) (hl : Hid (RdX Q 1 NuE w v l)) (hok : Hid (∀ r ∈ l, 0 ≤ r ∧ r < rs.length)) :
    Calls Try.prog 114 #[fuL fa fb ret fd fe, v] w fun e w' => e = .returned (.bool (objB rs l)) ∧ Below w.heap.size w w' := by
  obtain ⟨A, cap, rfl⟩ := hl.out.shape
  cases l with
  | nil =>
    have e0 : decide (((0 : Nat) : Int) > 0) = false := by decide
    go_enter Try.func114, Try.ntmps114
    go_wp2_with fail
    go_quiet (fail)
    go_wp2_with fail
    go_ret
    exact ⟨rfl, Below.drewN' ((Below.refl w.heap.size w).alloc (Nat.le_refl _) _) _⟩
  | cons r q =>
    obtain ⟨g, o, rfl, _, c0⟩ := rd_cell (i := 0) hl.out rfl
    have c0 : w.cell? ⟨g, o, none⟩ = some (.int .i64 r) := c0
    have HIN : Hid (r = -1 ∨ (0 ≤ r ∧ r < rs.length)) := lhid (.inr (hok.out r List.mem_cons_self))
    have HO := lhid (show objB rs (r :: q) = (kd rs r == 3) from rfl)
    obtain ⟨k, hk⟩ : ∃ k, kd rs r = k := ⟨_, rfl⟩
    have HK := lhid hk
    rw [hk] at HO
    clear hk
    have l1 : (0 : Int) < ((r :: q).length : Int) := by simp
    have l2 : decide ((0 : Int) < ((r :: q).length : Int)) = true := decide_eq_true l1
    obtain ⟨n, hn⟩ : ∃ n, (r :: q).length = n := ⟨_, rfl⟩
    rw [hn] at l1 l2 ⊢
    have l3 : 0 < n := by omega
    go_enter Try.func114, Try.ntmps114
    go_wp2_with fail
    generalize hW : w.alloc _ = wr
    have hB : Below w.heap.size w wr := by rw [← hW]; exact (Below.refl w.heap.size w).alloc (Nat.le_refl _) _
    have hF : FBox wr w.heap.size fa fb ret fd fe := by rw [← hW]; exact heap_alloc_new w _
    have HG : Hid (∀ w' : World, Below wr.heap.size wr w' → w'.cell? ⟨w.heap.size, 0, none⟩ = some fa ∧ w'.cell? ⟨w.heap.size, 1, none⟩ = some fb ∧ w'.cell? ⟨w.heap.size, 2, none⟩ = some (.int .i64 ret) ∧ w'.cell? ⟨w.heap.size, 3, none⟩ = some fd ∧ w'.cell? ⟨w.heap.size, 4, none⟩ = some fe ∧ w'.cell? ⟨g, o, none⟩ = some (.int .i64 r)) := lhid (by
      intro w' hw'
      have hF' : FBox w' w.heap.size fa fb ret fd fe := heap_keep hF hw'
      obtain ⟨p0, p1, p2, p3, p4⟩ := hF'.cells
      have e0 := (hB.cell (p := ⟨g, o, none⟩) (cell_lt c0)).trans c0
      exact ⟨p0, p1, p2, p3, p4, (hw'.cell (p := ⟨g, o, none⟩) (cell_lt e0)).trans e0⟩)
    have HR := lhid (h.out.below (keptX_nu _) hB)
    have HB := lhid hB
    clear hB hF hW c0
    refine wp_region_quiet_c (C := fun w' => Below wr.heap.size wr w') (by kernel_rfl) (by kernel_rfl) (Below.drew' (Below.refl _ _)) ?_
    repeat (first
      | go_big_quiet_skip
      | (go_big_quiet_want
         first
           | (refine quiet_of_run (v := ?_) (fun w' hw' => ?_) ?_
              rotate_left
              · (obtain ⟨p0, p1, p2, p3, p4, p5⟩ := HG.out w' hw'; go_simp; try with_reducible rfl)
              go_big_quiet_on
              try simp only [Act.put, List.setIfInBounds_toArray, List.set_cons_zero, List.set_cons_succ])
           | (refine quiet_of_call (v := .int .i64 k) (f := 110) (args := #[fuL fa fb ret fd fe, .int .i64 r]) (fun w' hw' => ?_) (fun w' hw' => ?_) ?_
              · (go_simp; try with_reducible rfl)
              · (refine (kindOf_r rs fa fb ret fd fe r k w' (lhid (HR.out.below (keptX_nu _) hw')) HIN.out HK).mono ?_
                 rintro e w9 ⟨rfl, hb9⟩
                 exact ⟨rfl, hw'.trans (Below.less hb9 hw'.size)⟩)
              go_big_quiet_on
              try simp only [Act.put, List.setIfInBounds_toArray, List.set_cons_zero, List.set_cons_succ])))
    refine wpQuiet_nil ?_
    intro wx hwx
    have HW := lhid (HB.out.trans (hwx.mono HB.out.size))
    clear hwx
    go_wp2_with fail
    go_ret
    exact ⟨by rw [HO.out]; rfl, HW.out⟩
theorem hasObject_r {P Q : Nat → Prop} (rs l : List Int) (fa fb : Value) (ret : Int) (fd fe v : Value) (z : Bool) (w : World) (h : Hid (RdX P 1 NuE w fa rs)) (hl : Hid (RdX Q 1 NuE w v l)) (hok : Hid (∀ r ∈ l, 0 ≤ r ∧ r < rs.length)) (hz : Hid (objB rs l = z)) :
  Calls Try.prog 114 #[fuL fa fb ret fd fe, v] w fun e w' => e = .returned (.bool z) ∧ Below w.heap.size w w' := by
 have := hasObject_any rs l fa fb ret fd fe v w h hl hok
 rwa [hz.out] at this
end Go.Proofs.Ytbkeneadoccodaa
