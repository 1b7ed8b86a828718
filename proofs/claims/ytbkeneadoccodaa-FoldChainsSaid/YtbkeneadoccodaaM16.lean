/- Texts of this claim, joined: CFlwBit, CFlwUnset. -/
import Derived.Test.YtbkeneadoccodaaJCFlwSpreadS
import Derived.Test.YtbkeneadoccodaaM3
import Derived.Test.YtbkeneadoccodaaM6
import Derived.Test.YtbkeneadoccodaaM15
import Derived.Test.YtbkeneadoccodaaM11
import Derived.Laws.OwnMore
import Derived.Deep.Cut
import Derived.Deep.CutRange
import Derived.Deep.CutBlock
/- A register's bit among 64 from a first one on; what a place stops; which registers are unset at first. -/
namespace Go.Proofs.Ytbkeneadoccodaa
open Go.RowKit Go
set_option linter.unusedVariables false
set_option linter.unusedSimpArgs false
def bitN (r first : Int) : Mk := if 0 ≤ r - first then BitVec.ofNat 64 (2 ^ (r - first).toNat) else 0
theorem bitN_get (r first : Int) (b : Nat) : (bitN r first).getLsbD b = (decide (b < 64) && decide (r - first = b)) := by
 unfold bitN
 split
 ·rename_i h
  rw [BitVec.getLsbD_ofNat, Nat.testBit_two_pow]
  congr 1
  rw [decide_eq_decide]
  omega
 ·rename_i h
  have : decide (r - first = (b : Int)) = false := by simp; omega
  rw [this]
  simp
theorem def_w (x : InI) (v : Value) (w : World) (d : Int) (hd : Hid (defI x = d)) : Calls Try.prog 64 #[inA x v] w fun e w' => e = .returned (.int .i64 d) ∧ Below w.heap.size w w' := by
 have := def_any x v w
 rwa [hd.out] at this
theorem uses_w {P : Nat → Prop} (x : InI) (v : Value) (l : List Int) (w : World) (h : Hid (RdX P 1 NuE w v x.args)) (hby : Hid (x.args.length * 8 ≤ 140737488355328)) (hl : Hid (usesI x = l)) :
  Calls Try.prog 70 #[inA x v] w fun e w' => ∃ v', e = .returned v' ∧ OwN w' w.heap.size v' l ∧ Below w.heap.size w w' := by
 have := uses_any x v w h hby
 rwa [hl.out] at this
theorem u64_pow (n : Nat) : IntKind.u64.wrap ((2 : Int) ^ n) = ((BitVec.ofNat 64 (2 ^ n)).toNat : Int) := by
 have h : IntKind.u64.wrap ((2 : Int) ^ n) = (2 : Int) ^ n % 18446744073709551616 := by
  unfold IntKind.wrap
  simp [IntKind.bits, IntKind.signed]
 rw [h, BitVec.toNat_ofNat]
 have h2 : ((2 : Int) ^ n) = ((2 ^ n : Nat) : Int) := by simp
 rw [h2]
 omega
theorem u64_big (n : Nat) (hn : 64 ≤ n) : IntKind.u64.wrap ((2 : Int) ^ n) = 0 := by
 rw [u64_pow, BitVec.toNat_ofNat]
 have : 2 ^ n % 2 ^ 64 = 0 := by
  obtain ⟨k, rfl⟩ : ∃ k, n = 64 + k := ⟨n - 64, by omega⟩
  rw [Nat.pow_add]
  exact Nat.mul_mod_right _ _
 rw [this]
 rfl
theorem u64_min (n : Nat) : IntKind.u64.wrap ((2 : Int) ^ min n 64) = ((BitVec.ofNat 64 (2 ^ n)).toNat : Int) := by
 by_cases h : n < 64
 ·rw [Nat.min_eq_left (by omega)]
  exact u64_pow n
 ·rw [Nat.min_eq_right (by omega), u64_big 64 (Nat.le_refl _)]
  have h1 := u64_big n (by omega)
  rw [u64_pow] at h1
  exact h1.symm
theorem bit_c (r first : Int) (w : World) (hr : Hid (I64 r)) (h0 : Hid (0 ≤ first ∧ first ≤ 1099511627776)) : Calls Try.prog 69 #[.int .i64 r, .int .i64 first] w fun e w' => e = .returned (.int .u64 ((bitN r first).toNat : Int)) ∧ w' = w := by
 have hr2 := hr.out
 unfold I64 at hr2
 have h02 := h0.out
 obtain ⟨d, hd⟩ : ∃ d, r - first = d := ⟨_, rfl⟩
 by_cases hov : r - first < -9223372036854775808
 ·have h1 : wrap64 (r - first) = d + 18446744073709551616 := by unfold wrap64; omega
  obtain ⟨n, hn⟩ : ∃ n : Nat, d + 18446744073709551616 = n := ⟨(d + 18446744073709551616).toNat, by omega⟩
  rw [hn] at h1
  have h2 : IntKind.u64.wrap (n : Int) = (n : Int) := IntWalk.u64_in _ (by omega)
  have h3 := u64_big (min n 64) (by omega)
  have hb : ((bitN r first).toNat : Int) = 0 := by unfold bitN; rw [if_neg (by omega)]; rfl
  rw [hb]
  clear hb hov hd hn hr2 h02
  go_enter Try.func69, Try.ntmps69
  go_wp2_with fail
  go_ret
  exact ⟨rfl, rfl⟩
 ·have h1 : wrap64 (r - first) = d := by rw [hd]; exact IntWalk.wrap64_in _ (by omega)
  by_cases hp : 0 ≤ d
  ·obtain ⟨n, hn⟩ : ∃ n : Nat, d = n := ⟨d.toNat, by omega⟩
   rw [hn] at h1
   have h2 : IntKind.u64.wrap (n : Int) = (n : Int) := IntWalk.u64_in _ (by omega)
   have h3 := u64_min n
   obtain ⟨z, hz⟩ : ∃ z : Int, ((BitVec.ofNat 64 (2 ^ n)).toNat : Int) = z := ⟨_, rfl⟩
   rw [hz] at h3
   have hb : bitN r first = BitVec.ofNat 64 (2 ^ n) := by unfold bitN; rw [if_pos (by omega)]; congr 2; omega
   rw [hb, hz]
   clear hb hov hd hn hr2 h02 hp
   go_enter Try.func69, Try.ntmps69
   go_wp2_with fail
   go_ret
   exact ⟨rfl, rfl⟩
  ·obtain ⟨n, hn⟩ : ∃ n : Nat, d + 18446744073709551616 = n := ⟨(d + 18446744073709551616).toNat, by omega⟩
   have h2 : IntKind.u64.wrap d = (n : Int) := by unfold IntKind.wrap; simp [IntKind.bits, IntKind.signed]; omega
   have h3 := u64_big (min n 64) (by omega)
   have hb : ((bitN r first).toNat : Int) = 0 := by unfold bitN; rw [if_neg (by omega)]; rfl
   rw [hb]
   clear hb hov hd hn hr2 h02 hp
   go_enter Try.func69, Try.ntmps69
   go_wp2_with fail
   go_ret
   exact ⟨rfl, rfl⟩
set_option maxHeartbeats 8000000 in
set_option maxRecDepth 100000 in
theorem stop_c {P : Nat → Prop} (c : List InI) (n : Nat) (hn : Hid (c.length = n)) (fa fb fe nv sv : Value) (D : Option Addr) (dcap : Nat) (ret : Int) (WB FI : Nat) (first : Int) (i : Nat) (x : InI) (w : World) (hw : Hid (WBox w WB fa fb ret (.slice D n dcap) fe nv sv)) (hf : Hid (w.heap[FI]? = some (.cells #[.int .i64 first] 3 (0, 0)))) (hd : Hid (RdX P 9 (InE P) w (.slice D n dcap) c)) (hx : Hid (c[i]? = some x)) (hr : Hid (I64 (defI x))) (h0 : Hid (0 ≤ first ∧ first ≤ 1099511627776)) :
    Calls Try.prog 68 #[.int .i64 (i : Int), .pointer (some ⟨WB, 0, none⟩), .pointer (some ⟨FI, 0, none⟩)] w fun e w' => e = .returned (.int .u64 ((bitN (defI x) first).toNat : Int)) ∧ Below w.heap.size w w' := by
  obtain ⟨dg, od, v, hD, _, hva, c0, c1, c2, c3, c4, c5, c6, c7, c8⟩ := in_cells hd.out hx.out
  subst hD
  have hi : (i : Int) < n := by have := (List.getElem?_eq_some_iff.1 hx.out).1; have := hn.out; omega
  have HG : Hid (∀ w' : World, Below w.heap.size w w' → w'.cell? ⟨WB, 3, none⟩ = some (.slice (some ⟨dg, od, none⟩) n dcap) ∧ w'.cell? ⟨FI, 0, none⟩ = some (.int .i64 first) ∧ w'.cell? ⟨dg, od + i * 9, none⟩ = some (.int .i64 x.op) ∧ w'.cell? ⟨dg, od + i * 9 + 1, none⟩ = some (.int .i64 x.dst) ∧ w'.cell? ⟨dg, od + i * 9 + 2, none⟩ = some (.int .i64 x.a) ∧ w'.cell? ⟨dg, od + i * 9 + 3, none⟩ = some (.int .i64 x.b) ∧ w'.cell? ⟨dg, od + i * 9 + 4, none⟩ = some (.int .i64 x.c) ∧ w'.cell? ⟨dg, od + i * 9 + 5, none⟩ = some (.int .i64 x.num) ∧ w'.cell? ⟨dg, od + i * 9 + 6, none⟩ = some (.int .i64 x.too) ∧ w'.cell? ⟨dg, od + i * 9 + 7, none⟩ = some (.string (tx x.ref)) ∧ w'.cell? ⟨dg, od + i * 9 + 8, none⟩ = some v) := lhid (fun w' hw' => by
    have k1 : WBox w' WB fa fb ret (.slice (some ⟨dg, od, none⟩) n dcap) fe nv sv := heap_keep hw.out hw'
    have kc : ∀ {p : Addr} {u : Value}, w.cell? p = some u → w'.cell? p = some u := fun {p u} hq => (hw'.cell (p := p) (cell_lt hq)).trans hq
    exact ⟨k1.cells.2.2.2.1, heap_cell (heap_keep hf.out hw') rfl, kc c0, kc c1, kc c2, kc c3, kc c4, kc c5, kc c6, kc c7, kc c8⟩)
  clear c0 c1 c2 c3 c4 c5 c6 c7 c8 hva
  obtain ⟨d, hde⟩ : ∃ d, defI x = d := ⟨_, rfl⟩
  have HDE := lhid hde
  rw [hde] at hr ⊢
  clear hde
  go_enter Try.func68, Try.ntmps68
  go_upto_region 1 with fail
  refine wp_region_held_drew (S := fun w' => Below w.heap.size w w') (by kernel_rfl) (Below.drew' (Below.refl _ _)) ?_
  intro hS0
  refine wpAnyH_take (i := 0) (v := ?tv1) rfl (by kernel_rfl) (by kernel_rfl) (by kernel_rfl) (fun _ _ _ h => h) (Or.inl ⟨by rfl, ?ty1⟩) hS0 ?tr1
  case ty1 => (intro w' hw'; obtain ⟨p3, f0, c0, c1, c2, c3, c4, c5, c6, c7, c8⟩ := HG.out w' hw'; go_simp; try with_reducible rfl)
  try simp only [List.getElem_toArray, List.getElem_cons_zero, List.getElem_cons_succ]
  try simp only [Act.put, List.setIfInBounds_toArray, List.set_cons_zero, List.set_cons_succ]
  refine wpAnyH_take (i := 1) (v := ?tv2) rfl (by kernel_rfl) (by kernel_rfl) (by kernel_rfl) (fun _ _ _ h => h) (Or.inl ⟨by rfl, ?ty2⟩) hS0 ?tr2
  case ty2 => (intro w' hw'; obtain ⟨p3, f0, c0, c1, c2, c3, c4, c5, c6, c7, c8⟩ := HG.out w' hw'; go_simp; try with_reducible rfl)
  try simp only [List.getElem_toArray, List.getElem_cons_zero, List.getElem_cons_succ]
  try simp only [Act.put, List.setIfInBounds_toArray, List.set_cons_zero, List.set_cons_succ]
  refine wpAnyH_take (i := 2) (v := ?tv3) rfl (by kernel_rfl) (by kernel_rfl) (by kernel_rfl) (fun _ _ _ h => h) (Or.inl ⟨by rfl, ?ty3⟩) hS0 ?tr3
  case ty3 => (intro w' hw'; obtain ⟨p3, f0, c0, c1, c2, c3, c4, c5, c6, c7, c8⟩ := HG.out w' hw'; go_simp; try with_reducible rfl)
  try simp only [List.getElem_toArray, List.getElem_cons_zero, List.getElem_cons_succ]
  try simp only [Act.put, List.setIfInBounds_toArray, List.set_cons_zero, List.set_cons_succ]
  refine wpAnyH_take (i := 3) (v := ?tv4) rfl (by kernel_rfl) (by kernel_rfl) (by kernel_rfl) (fun _ _ _ h => h) (Or.inl ⟨by rfl, ?ty4⟩) hS0 ?tr4
  case ty4 => (intro w' hw'; obtain ⟨p3, f0, c0, c1, c2, c3, c4, c5, c6, c7, c8⟩ := HG.out w' hw'; go_simp; try with_reducible rfl)
  try simp only [List.getElem_toArray, List.getElem_cons_zero, List.getElem_cons_succ]
  try simp only [Act.put, List.setIfInBounds_toArray, List.set_cons_zero, List.set_cons_succ]
  refine wpAnyH_take (i := 4) (v := ?tv5) rfl (by kernel_rfl) (by kernel_rfl) (by kernel_rfl) (fun _ _ _ h => h) (Or.inl ⟨by rfl, ?ty5⟩) hS0 ?tr5
  case ty5 => (intro w' hw'; obtain ⟨p3, f0, c0, c1, c2, c3, c4, c5, c6, c7, c8⟩ := HG.out w' hw'; go_simp; try with_reducible rfl)
  try simp only [List.getElem_toArray, List.getElem_cons_zero, List.getElem_cons_succ]
  try simp only [Act.put, List.setIfInBounds_toArray, List.set_cons_zero, List.set_cons_succ]
  refine wpAnyH_take (i := 5) (v := ?tv6) rfl (by kernel_rfl) (by kernel_rfl) (by kernel_rfl) (fun _ _ _ h => h) (Or.inl ⟨by rfl, ?ty6⟩) hS0 ?tr6
  case ty6 => (intro w' hw'; obtain ⟨p3, f0, c0, c1, c2, c3, c4, c5, c6, c7, c8⟩ := HG.out w' hw'; go_simp; try with_reducible rfl)
  try simp only [List.getElem_toArray, List.getElem_cons_zero, List.getElem_cons_succ]
  try simp only [Act.put, List.setIfInBounds_toArray, List.set_cons_zero, List.set_cons_succ]
  refine wpAnyH_take (i := 7) (v := ?tv7) rfl (by kernel_rfl) (by kernel_rfl) (by kernel_rfl) (fun _ _ _ h => h) (Or.inl ⟨by rfl, ?ty7⟩) hS0 ?tr7
  case ty7 => (intro w' hw'; obtain ⟨p3, f0, c0, c1, c2, c3, c4, c5, c6, c7, c8⟩ := HG.out w' hw'; go_simp; try with_reducible rfl)
  try simp only [List.getElem_toArray, List.getElem_cons_zero, List.getElem_cons_succ]
  try simp only [Act.put, List.setIfInBounds_toArray, List.set_cons_zero, List.set_cons_succ]
  refine wpAnyH_ready (rs := [6]) (by kernel_rfl) (by simp) ?_
  refine AllReadyH.cons rfl (fun K hK => ?_) AllReadyH.nil
  go_simp
  refine (def_w x v _ d HDE).mono ?_
  rintro e wahS1 ⟨rfl, hb⟩
  have hS1 : Below w.heap.size w wahS1 := hS0.trans (hb.mono hS0.size)
  clear hb
  dsimp only
  refine hK.out _ _ hS1 (fun _ => ?_)
  clear hK K
  try simp only [Act.put, List.setIfInBounds_toArray, List.set_cons_zero, List.set_cons_succ]
  refine wpAnyH_ready (rs := [8]) (by kernel_rfl) (by simp) ?_
  refine AllReadyH.cons rfl (fun K hK => ?_) AllReadyH.nil
  go_simp
  refine (bit_c d first _ hr h0).mono ?_
  rintro e _ ⟨rfl, rfl⟩
  dsimp only
  refine hK.out _ _ hS1 (fun _ => ?_)
  clear hK K
  try simp only [Act.put, List.setIfInBounds_toArray, List.set_cons_zero, List.set_cons_succ]
  refine wpAnyH_quiet_tail 9 (by rfl) (by kernel_rfl) (by kernel_rfl) hS1 ?_
  simp only [List.drop_succ_cons, List.drop_zero]
  repeat (first
    | go_big_quiet_skip
    | (go_big_quiet_want
       refine quiet_of_run (v := ?_) (fun w' hw' => ?_) ?_
       rotate_left
       · (go_simp; try with_reducible rfl)
       go_big_quiet_on
       try simp only [Act.put, List.setIfInBounds_toArray, List.set_cons_zero, List.set_cons_succ]))
  refine wpQuiet_nil ?_
  intro wx hwx
  have HW := lhid hwx
  clear hwx
  go_wp2_with fail
  go_ret
  exact ⟨rfl, HW.out⟩
end Go.Proofs.Ytbkeneadoccodaa
/- Which of 64 registers no argument lies in: the program's unsetAtFirst. -/
namespace Go.Proofs.Ytbkeneadoccodaa
open Go.RowKit Go
set_option linter.unusedVariables false
set_option linter.unusedSimpArgs false
set_option maxHeartbeats 8000000 in
set_option maxRecDepth 100000 in
theorem unset_c {P : Nat → Prop} (f : FuI) (fa fb fd fe : Value) (F : Nat) (w : World) (h : Hid (FuV P w f fa fb fd fe)) (hF : Hid (F < f.regs.length)) (hl : Hid (f.regs.length ≤ 1099511627776)) (hp : Hid (∀ r ∈ f.params, I64 r)) :
  Calls Try.prog 67 #[fuL fa fb f.ret fd fe, .int .i64 (F : Int)] w fun e w' => ∃ U : Mk, e = .returned (.int .u64 (U.toNat : Int)) ∧ (∀ b, U.getLsbD b = true ↔ b < 64 ∧ F + b < f.regs.length ∧ ((F + b : Nat) : Int) ∉ f.params) ∧ Below w.heap.size w w' := by
 obtain ⟨FA, ac, hFA⟩ := h.out.a.shape
 subst hFA
 obtain ⟨FB, bc, hFB⟩ := h.out.b.shape
 subst hFB
 obtain ⟨R, hR⟩ : ∃ R, f.regs.length = R := ⟨_, rfl⟩
 have hF2 := hF.out
 have hl2 := hl.out
 have hu := h.out
 rw [hR] at hF2 hl2 hu ⊢
 have HFU := lhid hu
 have hpl := h.out.b.len
 clear hR hF hl hu h
 obtain ⟨cn, hcn⟩ : ∃ cn : Nat, min (F + 64) R = F + cn := ⟨min (F + 64) R - F, by omega⟩
 have hw64 : wrap64 ((F : Int) + 64) = (F : Int) + 64 := IntWalk.wrap64_in _ (by omega)
 have hmin : min ((F : Int) + 64) (R : Int) = (F : Int) + cn := by omega
 have HCN : Hid (cn ≤ 64 ∧ ∀ b, b < cn ↔ b < 64 ∧ F + b < R) := lhid ⟨by omega, fun b => by omega⟩
 clear hcn
 go_enter Try.func67, Try.ntmps67
 go_wp2_with fail
 generalize hW : World.alloc _ _ = w0
 have hb0 : Below w.heap.size w w0 := by rw [← hW]; exact (Below.refl _ _).alloc (Nat.le_refl _) _
 have hF0 : FBox w0 w.heap.size (.slice FA R ac) (.slice FB f.params.length bc) f.ret fd fe := by rw [← hW]; exact heap_alloc_new w _
 have HF0 := lhid hF0
 have HB0 := lhid hb0
 have HU0 := lhid (HFU.out.below hb0)
 obtain ⟨p0, p1, p2, p3, p4⟩ := hF0.cells
 clear hW hb0 hF0
 go_loopg [5, 6] cn (fun g u r wr => ∃ (U : Mk) (k : Nat), g = cn - k ∧ u = .int .u64 (U.toNat : Int) ∧ r = .int .i64 ((F : Int) + k) ∧ k ≤ cn ∧ Hid (∀ b, U.getLsbD b = true ↔ b < k) ∧ wr = w0)
 case atStart => exact ⟨0, 0, rfl, rfl, by simp, Nat.zero_le _, lhid (fun b => by simp), rfl⟩
 case round =>
  obtain ⟨U, k, rfl, rfl, rfl, hk, HUB, rfl⟩ := hrel
  by_cases hlt : k < cn
  ·have k3 : (F : Int) + k < (F : Int) + cn := by omega
   have hwk : wrap64 ((F : Int) + k + 1) = (F : Int) + k + 1 := IntWalk.wrap64_in _ (by omega)
   obtain ⟨z, hz⟩ : ∃ z, (F : Int) + k = z := ⟨_, rfl⟩
   rw [hz] at k3 hwk ⊢
   have HI : Hid (I64 z) := lhid ⟨by omega, by omega⟩
   have hor := or_u U (bitN z F)
   obtain ⟨V, hV⟩ : ∃ V, U ||| bitN z F = V := ⟨_, rfl⟩
   have HV : Hid (∀ b, V.getLsbD b = true ↔ b < k + 1) := lhid (fun b => by
    rw [← hV, BitVec.getLsbD_or, Bool.or_eq_true, HUB.out b, bitN_get]
    have := HCN.out.1
    simp only [Bool.and_eq_true, decide_eq_true_eq]
    omega)
   rw [hV] at hor
   have HZ := lhid hz
   have HWK := lhid hwk
   clear hV hz hwk
   go_wp2_with fail
   with_reducible refine (bit_c z F _ HI (lhid (by omega))).mono ?_
   rintro e _ ⟨rfl, rfl⟩
   go_wp2_with fail
   go_roundg (cn - (k + 1))
   case measure => omega
   case rel => exact ⟨V, k + 1, rfl, rfl, by congr 1; have h1 := HZ.out; have h2 := HWK.out; omega, by omega, HV, rfl⟩
  ·have k3 : ¬ (F : Int) + k < (F : Int) + cn := by omega
   have hke : k = cn := by omega
   subst hke
   clear hlt
   obtain ⟨w1, hw1⟩ : ∃ x, x = wr := ⟨_, rfl⟩
   subst hw1
   go_wp2_with fail
   go_loopg [5, 28] f.params.length (fun g u s wq => ∃ (U : Mk) (m : Nat), g = f.params.length - m ∧ u = .int .u64 (U.toNat : Int) ∧ s = .int .i64 m ∧ m ≤ f.params.length ∧ Hid (∀ b, U.getLsbD b = true ↔ b < k ∧ ((F + b : Nat) : Int) ∉ f.params.take m) ∧ wq = w1)
   case atStart => exact ⟨U, 0, rfl, rfl, rfl, Nat.zero_le _, lhid (fun b => by rw [HUB.out b]; simp), rfl⟩
   case round =>
    clear HUB
    obtain ⟨U, m, rfl, rfl, rfl, hm, HUB, rfl⟩ := hrel
    by_cases hlt : m < f.params.length
    ·obtain ⟨z, hz⟩ : ∃ z, f.params[m]? = some z := ⟨_, List.getElem?_eq_getElem hlt⟩
     obtain ⟨g, o, c1, h1, _, h2, h3⟩ := HU0.out.b.at' hz
     have h2 : c1 = [.int .i64 z] := h2
     subst h2 h1
     have c0 := h3 0 _ rfl
     rw [Nat.add_zero, Nat.mul_one] at c0
     have k3 : (m : Int) < f.params.length := by omega
     have hwk : wrap64 ((m : Int) + 1) = ((m + 1 : Nat) : Int) := by rw [IntWalk.wrap64_in _ (by omega)]; omega
     have HI := lhid (hp.out z (List.mem_of_getElem? hz))
     have han := andNot_u U (bitN z F)
     obtain ⟨V, hV⟩ : ∃ V, U &&& ~~~(bitN z F) = V := ⟨_, rfl⟩
     have HV : Hid (∀ b, V.getLsbD b = true ↔ b < k ∧ ((F + b : Nat) : Int) ∉ f.params.take (m + 1)) := lhid (fun b => by
      rw [← hV, BitVec.getLsbD_and, BitVec.getLsbD_not, bitN_get, take_snoc hz]
      have h4 := HCN.out.1
      have h5 := HUB.out b
      simp only [Bool.and_eq_true, h5, decide_eq_true_eq, Bool.not_eq_true', Bool.and_eq_false_iff, decide_eq_false_iff_not, List.mem_append, List.mem_singleton, not_or]
      constructor
      ·rintro ⟨⟨h6, h7⟩, h8, h9⟩
       exact ⟨h6, h7, by omega⟩
      ·rintro ⟨h6, h7, h8⟩
       exact ⟨⟨h6, h7⟩, by omega, .inr (by omega)⟩)
     rw [hV] at han
     clear hV hz h3
     go_wp2_with fail
     with_reducible refine (bit_c z F _ HI (lhid (by omega))).mono ?_
     rintro e _ ⟨rfl, rfl⟩
     go_wp2_with fail
     go_roundg (f.params.length - (m + 1))
     case measure => omega
     case rel => exact ⟨V, m + 1, rfl, rfl, by first | rfl | rw [hwk], by omega, HV, rfl⟩
    ·have k3 : ¬ (m : Int) < f.params.length := by omega
     have hke : m = f.params.length := by omega
     subst hke
     clear hlt
     go_wp2_with fail
     go_ret
     refine ⟨U, rfl, fun b => ?_, HB0.out⟩
     rw [HUB.out b, HCN.out.2 b, List.take_length]
     exact and_assoc
end Go.Proofs.Ytbkeneadoccodaa
