/- Texts of this claim, joined: CInsClone, CInsUses, CInsUsesW, CInsUsesX, CInsRef, CInsRow, CInsInts. -/
import Derived.Test.YtbkeneadoccodaaM2
import Derived.Laws.AppendOwnNone
import Derived.OwnWalk
import Derived.Deep.Cut
import Derived.Deep.CutBlock
import Derived.KernelRfl
import Derived.BigQuiet
/- slices.Clone at int, api.Row, api.Ins. -/
namespace Go.Proofs.Ytbkeneadoccodaa
open Go.RowKit Go
set_option linter.unusedVariables false
def Row1 {α : Type} (k : Nat) (E : World → α → List Value → Prop) : Prop := ∀ w a c, E w a c → c.length = k ∧ ∀ u, u ∈ c → u.oneCell' = true
theorem one_sl {α : Type} {P : Nat → Prop} {k : Nat} {E : World → α → List Value → Prop} {w : World} {v : Value} {l : List α} (h : RdX P k E w v l) : v.oneCell' = true := by
 obtain ⟨A, c, rfl⟩ := h.shape
 rfl
theorem info_parts {P : Program} {e : TypeId} {z : Value} {n b : Nat} (h : (P.info? e).map (fun i => (i.zero, i.size, i.bytes)) = some (some z, n, b)) : ∃ i, P.info? e = some i ∧ i.zero = some z ∧ i.size = n ∧ i.bytes = b := by
 cases hi : P.info? e with
 | none => rw [hi] at h; cases h
 | some i =>
  rw [hi] at h
  simp only [Option.map_some, Option.some.injEq, Prod.mk.injEq] at h
  exact ⟨i, rfl, h⟩
theorem row_nu : Row1 1 NuE := by rintro w a c rfl; simp [Value.oneCell']
theorem row_rw : Row1 4 RwE := by rintro w a c rfl; simp [Value.oneCell']
theorem row_in (P : Nat → Prop) : Row1 9 (InE P) := by
 rintro w f c ⟨a, rfl, h1⟩
 have e1 := one_sl h1
 simp [e1]
 simp [Value.oneCell']
theorem rdX_cells {α : Type} {P : Nat → Prop} {k : Nat} {E : World → α → List Value → Prop} (hk : Row1 k E) {w : World} {ad : Addr} {n cap : Nat} {l : List α} (h : RdX P k E w (.slice (some ad) n cap) l) :
  ∃ xs, RowsE k (E w) l xs ∧ (∀ (j : Nat) u, xs[j]? = some u → w.cell? (ad.add j) = some u) ∧ ∀ u, u ∈ xs → u.oneCell' = true := by
 cases l with
 | nil => exact ⟨[], rowsE_nil _ _, fun j u hj => by simp at hj, fun u hu => by simp at hu⟩
 | cons a0 r =>
  obtain ⟨g, o, c0, hA, _, hE0, _⟩ := h.at' (i := 0) (a := a0) rfl
  injection hA with hA
  subst hA
  obtain ⟨xs, h1, h2⟩ := rows_list (fun a c hc => (hk w a c hc).1) (fun j => w.cell? ⟨g, j, none⟩) (a0 :: r) o (fun i a hi => by
   obtain ⟨g', o', c, hA', _, h5, h6⟩ := h.at' hi
   injection hA' with hA'
   injection hA' with e1 e2
   subst e1
   subst e2
   exact ⟨c, h5, h6⟩)
  refine ⟨xs, h1, fun j u hj => by rw [addr_add]; exact h2 j u hj, fun u hu => ?_⟩
  obtain ⟨j, hj⟩ := List.getElem?_of_mem hu
  have hlen := (List.getElem?_eq_some_iff.1 hj).1
  have h0 := hk w a0 c0 hE0
  rw [h1.1] at hlen
  have hkpos : 0 < k := by
   rcases Nat.eq_zero_or_pos k with e | e
   ·rw [e] at hlen; omega
   ·exact e
  have hdiv : j / k < (a0 :: r).length := by rw [Nat.div_lt_iff_lt_mul hkpos]; exact hlen
  obtain ⟨c, h3, h4⟩ := h1.2 (j / k) _ (List.getElem?_eq_getElem hdiv)
  have hc := (hk w _ c h3)
  have hm : j % k < c.length := by rw [hc.1]; exact Nat.mod_lt _ hkpos
  have h5 := h4 (j % k) _ (List.getElem?_eq_getElem hm)
  rw [show j / k * k + j % k = j by rw [Nat.mul_comm]; exact Nat.div_add_mod j k, hj] at h5
  injection h5 with h5
  rw [h5]
  exact hc.2 _ (List.getElem_mem hm)
theorem info_nu : (Try.prog.info? 3).map (fun i => (i.zero, i.size, i.bytes)) = some (some (.int .i64 0), 1, 8) := by kernel_rfl
set_option maxHeartbeats 1000000 in
set_option maxRecDepth 100000 in
theorem clone_nu {α : Type} {P : Nat → Prop} {E : World → α → List Value → Prop} (hk : Row1 1 E) (v : Value) (l : List α) (w : World) (h : Hid (RdX P 1 E w v l)) (hby : l.length * 8 ≤ 140737488355328) :
  Calls Try.prog 43 #[v] w fun e w' => ∃ v' xs, e = .returned v' ∧ w'.ownsRow w.heap.size 3 1 v' l.length xs ∧ RowsE 1 (E w) l xs ∧ Below w.heap.size w w' := by
 obtain ⟨A, cap, rfl⟩ := h.out.shape
 have hlen := h.out.len
 obtain ⟨i0, hi, hz0, hz1, hz2⟩ := info_parts info_nu
 cases A with
 | none =>
  have hl := h.out.none0.1
  subst hl
  have hq : ∀ w', (binOp .eql 23 (.slice none 0 cap) (.slice none 0 0)).run Try.prog w' = .ok (.bool true) w' := fun w' => by kernel_rfl
  go_enter Try.func43, Try.ntmps43
  go_wp2_with fail
  go_ret
  exact ⟨_, [], rfl, World.ownsRow_nil _ _ _ _, rowsE_nil _ _, Below.refl _ _⟩
 | some ad =>
  obtain ⟨xs, HX⟩ : ∃ xs, Hid (RowsE 1 (E w) l xs ∧ (∀ (j : Nat) u, xs[j]? = some u → w.cell? (ad.add j) = some u) ∧ ∀ u, u ∈ xs → u.oneCell' = true) := by
   obtain ⟨xs, hx⟩ := rdX_cells hk h.out
   exact ⟨xs, lhid hx⟩
  have hq : ∀ w', (binOp .eql 23 (.slice (some ad) l.length cap) (.slice none 0 0)).run Try.prog w' = .ok (.bool false) w' := fun w' => by kernel_rfl
  go_enter Try.func43, Try.ntmps43
  go_wp2_with (at_builtin; refine wpList_append_own _ rfl (.tmp 5) (.tmp 6) 23 rfl w.heap.size 3 i0 (.int .i64 0) 1 8 Try.underlying23 hi hz0 hz1 hz2 rfl (by decide) (.slice (some ⟨w.heap.size, 0, none⟩) 0 0) 0 [] rfl (World.ownsRow_lit _ #[] 0 (Nat.le_refl _) (Nat.zero_le _) (by simp)) ad l.length cap xs rfl HX.out.1.1 ?a2 HX.out.2.2 ?a4 ?a5 ?a6 ?_)
  case a2 =>
   intro j u hj
   have h1 := HX.out.2.1 j u hj
   rw [Go.RowKit.Below.cell ((Below.refl w.heap.size w).alloc (Nat.le_refl _) _) (cell_lt h1)]
   exact h1
  case a4 => unfold maxLen; omega
  case a5 => omega
  case a6 => simp
  intro v' w' hown hgrow hnil
  go_wp2_with fail
  go_ret
  refine ⟨v', xs, rfl, ?_, HX.out.1, ?_⟩
  ·exact hown
  ·exact Below.grown ((Below.refl _ _).alloc (Nat.le_refl _) _) hgrow (by simp) (by rintro k e; injection e with e; rw [← e]; exact Nat.le_refl _)
theorem info_rw : (Try.prog.info? 52).map (fun i => (i.zero, i.size, i.bytes)) = some (some (.agg #[.int .i64 0, .int .i64 0, .int .i64 0, .string ⟨#[]⟩]), 4, 40) := by kernel_rfl
set_option maxHeartbeats 1000000 in
set_option maxRecDepth 100000 in
theorem clone_rw {α : Type} {P : Nat → Prop} {E : World → α → List Value → Prop} (hk : Row1 4 E) (v : Value) (l : List α) (w : World) (h : Hid (RdX P 4 E w v l)) (hby : l.length * 40 ≤ 140737488355328) :
  Calls Try.prog 44 #[v] w fun e w' => ∃ v' xs, e = .returned v' ∧ w'.ownsRow w.heap.size 52 4 v' l.length xs ∧ RowsE 4 (E w) l xs ∧ Below w.heap.size w w' := by
 obtain ⟨A, cap, rfl⟩ := h.out.shape
 have hlen := h.out.len
 obtain ⟨i0, hi, hz0, hz1, hz2⟩ := info_parts info_rw
 cases A with
 | none =>
  have hl := h.out.none0.1
  subst hl
  have hq : ∀ w', (binOp .eql 25 (.slice none 0 cap) (.slice none 0 0)).run Try.prog w' = .ok (.bool true) w' := fun w' => by kernel_rfl
  go_enter Try.func44, Try.ntmps44
  go_wp2_with fail
  go_ret
  exact ⟨_, [], rfl, World.ownsRow_nil _ _ _ _, rowsE_nil _ _, Below.refl _ _⟩
 | some ad =>
  obtain ⟨xs, HX⟩ : ∃ xs, Hid (RowsE 4 (E w) l xs ∧ (∀ (j : Nat) u, xs[j]? = some u → w.cell? (ad.add j) = some u) ∧ ∀ u, u ∈ xs → u.oneCell' = true) := by
   obtain ⟨xs, hx⟩ := rdX_cells hk h.out
   exact ⟨xs, lhid hx⟩
  have hq : ∀ w', (binOp .eql 25 (.slice (some ad) l.length cap) (.slice none 0 0)).run Try.prog w' = .ok (.bool false) w' := fun w' => by kernel_rfl
  go_enter Try.func44, Try.ntmps44
  go_wp2_with (at_builtin; refine wpList_append_own _ rfl (.tmp 5) (.tmp 6) 25 rfl w.heap.size 52 i0 (.agg #[.int .i64 0, .int .i64 0, .int .i64 0, .string ⟨#[]⟩]) 4 40 Try.underlying25 hi hz0 hz1 hz2 rfl (by decide) (.slice (some ⟨w.heap.size, 0, none⟩) 0 0) 0 [] rfl (World.ownsRow_lit _ #[] 0 (Nat.le_refl _) (Nat.zero_le _) (by simp)) ad l.length cap xs rfl HX.out.1.1 ?a2 HX.out.2.2 ?a4 ?a5 ?a6 ?_)
  case a2 =>
   intro j u hj
   have h1 := HX.out.2.1 j u hj
   rw [Go.RowKit.Below.cell ((Below.refl w.heap.size w).alloc (Nat.le_refl _) _) (cell_lt h1)]
   exact h1
  case a4 => unfold maxLen; omega
  case a5 => omega
  case a6 => simp
  intro v' w' hown hgrow hnil
  go_wp2_with fail
  go_ret
  refine ⟨v', xs, rfl, ?_, HX.out.1, ?_⟩
  ·exact hown
  ·exact Below.grown ((Below.refl _ _).alloc (Nat.le_refl _) _) hgrow (by simp) (by rintro k e; injection e with e; rw [← e]; exact Nat.le_refl _)
theorem info_in : (Try.prog.info? 29).map (fun i => (i.zero, i.size, i.bytes)) = some (some (.agg #[.int .i64 0, .int .i64 0, .int .i64 0, .int .i64 0, .int .i64 0, .int .i64 0, .int .i64 0, .string ⟨#[]⟩, .slice none 0 0]), 9, 96) := by kernel_rfl
set_option maxHeartbeats 1000000 in
set_option maxRecDepth 100000 in
theorem clone_in {α : Type} {P : Nat → Prop} {E : World → α → List Value → Prop} (hk : Row1 9 E) (v : Value) (l : List α) (w : World) (h : Hid (RdX P 9 E w v l)) (hby : l.length * 96 ≤ 140737488355328) :
  Calls Try.prog 45 #[v] w fun e w' => ∃ v' xs, e = .returned v' ∧ w'.ownsRow w.heap.size 29 9 v' l.length xs ∧ RowsE 9 (E w) l xs ∧ Below w.heap.size w w' := by
 obtain ⟨A, cap, rfl⟩ := h.out.shape
 have hlen := h.out.len
 obtain ⟨i0, hi, hz0, hz1, hz2⟩ := info_parts info_in
 cases A with
 | none =>
  have hl := h.out.none0.1
  subst hl
  have hq : ∀ w', (binOp .eql 24 (.slice none 0 cap) (.slice none 0 0)).run Try.prog w' = .ok (.bool true) w' := fun w' => by kernel_rfl
  go_enter Try.func45, Try.ntmps45
  go_wp2_with fail
  go_ret
  exact ⟨_, [], rfl, World.ownsRow_nil _ _ _ _, rowsE_nil _ _, Below.refl _ _⟩
 | some ad =>
  obtain ⟨xs, HX⟩ : ∃ xs, Hid (RowsE 9 (E w) l xs ∧ (∀ (j : Nat) u, xs[j]? = some u → w.cell? (ad.add j) = some u) ∧ ∀ u, u ∈ xs → u.oneCell' = true) := by
   obtain ⟨xs, hx⟩ := rdX_cells hk h.out
   exact ⟨xs, lhid hx⟩
  have hq : ∀ w', (binOp .eql 24 (.slice (some ad) l.length cap) (.slice none 0 0)).run Try.prog w' = .ok (.bool false) w' := fun w' => by kernel_rfl
  go_enter Try.func45, Try.ntmps45
  go_wp2_with (at_builtin; refine wpList_append_own _ rfl (.tmp 5) (.tmp 6) 24 rfl w.heap.size 29 i0 (.agg #[.int .i64 0, .int .i64 0, .int .i64 0, .int .i64 0, .int .i64 0, .int .i64 0, .int .i64 0, .string ⟨#[]⟩, .slice none 0 0]) 9 96 Try.underlying24 hi hz0 hz1 hz2 rfl (by decide) (.slice (some ⟨w.heap.size, 0, none⟩) 0 0) 0 [] rfl (World.ownsRow_lit _ #[] 0 (Nat.le_refl _) (Nat.zero_le _) (by simp)) ad l.length cap xs rfl HX.out.1.1 ?a2 HX.out.2.2 ?a4 ?a5 ?a6 ?_)
  case a2 =>
   intro j u hj
   have h1 := HX.out.2.1 j u hj
   rw [Go.RowKit.Below.cell ((Below.refl w.heap.size w).alloc (Nat.le_refl _) _) (cell_lt h1)]
   exact h1
  case a4 => unfold maxLen; omega
  case a5 => omega
  case a6 => simp
  intro v' w' hown hgrow hnil
  go_wp2_with fail
  go_ret
  refine ⟨v', xs, rfl, ?_, HX.out.1, ?_⟩
  ·exact hown
  ·exact Below.grown ((Below.refl _ _).alloc (Nat.le_refl _) _) hgrow (by simp) (by rintro k e; injection e with e; rw [← e]; exact Nat.le_refl _)
end Go.Proofs.Ytbkeneadoccodaa
/- Contracts of Throws, Def, Uses, the program's. -/
namespace Go.Proofs.Ytbkeneadoccodaa
open Go.RowKit Go
set_option linter.unusedVariables false
set_option linter.unusedSimpArgs false
abbrev inL (c d a b k n t : Int) (r : Bs) (v : Value) : Value := .agg #[.int .i64 c, .int .i64 d, .int .i64 a, .int .i64 b, .int .i64 k, .int .i64 n, .int .i64 t, .string (tx r), v]
theorem field_w (f0 f1 f2 f3 : Int) : ∀ w', (Instr.field 144 (.agg #[.int .u64 f0, .int .u64 f1, .int .u64 f2, .int .u64 f3]) 0).run Try.prog w' = .ok (.int .u64 f0) w' := fun w' => by kernel_rfl
theorem field_r (f0 f1 f2 f3 : Int) : ∀ w', (Instr.field 144 (.agg #[.int .u64 f0, .int .u64 f1, .int .u64 f2, .int .u64 f3]) 1).run Try.prog w' = .ok (.agg #[.int .u64 f1, .int .u64 f2, .int .u64 f3]) w' := fun w' => by kernel_rfl
theorem throws_calls (c : Int) : ¬ c = 7 → ¬ c = 8 → ¬ c = 9 → ¬ c = 10 → ¬ c = 11 → ¬ c = 12 → ¬ c = 20 → ¬ c = 21 → ¬ c = 31 → callsB c = throwsB c := by
 intros
 unfold callsB throwsB
 simp [*]
set_option maxHeartbeats 8000000 in
set_option maxRecDepth 100000 in
theorem throws_any (x : InI) (v : Value) (w : World) :
    Calls Try.prog 100 #[inA x v] w fun e w' => e = .returned (.bool (throwsB x.op)) ∧ Below w.heap.size w w' := by
  obtain ⟨c, d, a, b, k, n, t, r, l⟩ := x
  have HX : ∀ w, Hid (Calls Try.prog 102 #[inL c d a b k n t r v] w fun e w' => e = .returned (.bool (callsB c)) ∧ Below w.heap.size w w') := fun w => lhid (calls_any ⟨c, d, a, b, k, n, t, r, l⟩ v w)
  show Calls Try.prog 100 #[inL c d a b k n t r v] w fun e w' => e = .returned (.bool (throwsB c)) ∧ Below w.heap.size w w'
  go_enter Try.func100, Try.ntmps100
  go_wp2_with (with_reducible refine (HX _).out.mono ?_; rintro e w1 ⟨rfl, hb⟩)
  all_goals go_ret
  all_goals
    refine ⟨?_, by first | exact (Below.refl w.heap.size w).alloc (Nat.le_refl _) _ | (rename Below _ _ _ => hb; exact ((Below.refl w.heap.size w).alloc (Nat.le_refl _) _).trans (hb.mono (by simp)))⟩
    first
      | (rename_i h; obtain rfl := eq_of_beq h; rfl)
      | (simp only [beq_eq_false_iff_ne, ne_eq] at *
         exact ret_val (by rw [← throws_calls c (by assumption) (by assumption) (by assumption) (by assumption) (by assumption) (by assumption) (by assumption) (by assumption) (by assumption)]; rfl))
set_option maxHeartbeats 8000000 in
set_option maxRecDepth 100000 in
theorem def_any (x : InI) (v : Value) (w : World) :
  Calls Try.prog 64 #[inA x v] w fun e w' => e = .returned (.int .i64 (defI x)) ∧ Below w.heap.size w w' := by
 obtain ⟨c, d, a, b, k, n, t, r, l⟩ := x
 have HF : ∀ w, Hid (Calls Try.prog 98 #[.int .i64 c] w fun e w' => e = .returned (fdV c) ∧ Below w.heap.size w w') := fun w => lhid (fieldsOf_any c w)
 have hd := wrB_fd c
 show Calls Try.prog 64 #[inL c d a b k n t r v] w fun e w' => e = .returned (.int .i64 (if wrB c then d else -1)) ∧ Below w.heap.size w w'
 unfold fdV at HF
 generalize wrB c = z at *
 generalize (fdT c).1 = f0 at *
 generalize (fdT c).2.1 = f1 at *
 generalize (fdT c).2.2.1 = f2 at *
 generalize (fdT c).2.2.2 = f3 at *
 have hz : (f0 == 0) = !z := by rw [hd]; simp
 clear hd
 cases z
 all_goals
  simp only [Bool.not_true, Bool.not_false] at hz
  have hq := field_w f0 f1 f2 f3
  go_enter Try.func64, Try.ntmps64
  go_wp2_with fail
  with_reducible refine (HF _).out.mono ?_
  rintro e w1 ⟨rfl, hb⟩
  have c1 : w1.cell? ⟨w.heap.size, 1, none⟩ = some (.int .i64 d) := (hb.cell (p := ⟨w.heap.size, 1, none⟩) (by simp)).trans (heap_cell (heap_alloc_new w _) rfl)
  have HB := lhid (((Below.refl w.heap.size w).alloc (Nat.le_refl _) _).trans (hb.mono (by simp)))
  clear hb
  go_wp2_with fail
  go_ret
  exact ⟨rfl, HB.out⟩
end Go.Proofs.Ytbkeneadoccodaa
/- Contract of Uses, the program's. -/
namespace Go.Proofs.Ytbkeneadoccodaa
open Go.RowKit Go
set_option linter.unusedVariables false
set_option linter.unusedSimpArgs false
def setsL : List Int := [0, 2, 6, 8, 9, 14, 15]
theorem fd_sets (c : Int) : (fdT c).2.1 ∈ setsL ∧ (fdT c).2.2.1 ∈ setsL ∧ (fdT c).2.2.2 ∈ setsL ∧ (fdT c).1 ∈ setsL := by
 refine all_ops (Q := fun c => (fdT c).2.1 ∈ setsL ∧ (fdT c).2.2.1 ∈ setsL ∧ (fdT c).2.2.2 ∈ setsL ∧ (fdT c).1 ∈ setsL) (by decide +kernel) (fun c hc => by rw [(out_of c hc).2.2.2.2.2.2.2.1]; decide) c
def hasB (f kd : Int) : Bool := f.toNat / 2 ^ kd.toNat % 2 == 1
set_option maxHeartbeats 8000000 in
set_option maxRecDepth 100000 in
theorem has_any (f kd : Int) (hf : f ∈ setsL) (hk : kd = 0 ∨ kd = 1 ∨ kd = 2 ∨ kd = 3) (w : World) :
  Calls Try.prog 103 #[.int .u64 f, .int .i64 kd] w fun e w' => e = .returned (.bool (hasB f kd)) ∧ w = w' := by
 unfold setsL at hf
 simp only [List.mem_cons, List.not_mem_nil, or_false] at hf
 rcases hf with rfl | rfl | rfl | rfl | rfl | rfl | rfl <;> rcases hk with rfl | rfl | rfl | rfl
 all_goals
  go_enter Try.func103, Try.ntmps103
  go_wp2
  go_ret
  exact ⟨by with_unfolding_all rfl, rfl⟩
def tkB (f r : Int) : Bool := !(f == 0) && !(decide (r < 0) && hasB f 0)
def us1 (f r : Int) : List Int := if tkB f r then [r] else []
theorem uses_us (x : InI) (h : callsB x.op = false) : usesI x = us1 (fdT x.op).2.1 x.a ++ us1 (fdT x.op).2.2.1 x.b ++ us1 (fdT x.op).2.2.2 x.c := by
 obtain ⟨c, d, a, b, k, n, t, r, l⟩ := x
 revert h
 show callsB c = false → usesI ⟨c, d, a, b, k, n, t, r, l⟩ = us1 (fdT c).2.1 a ++ us1 (fdT c).2.2.1 b ++ us1 (fdT c).2.2.2 k
 have key : ∀ c : Int, callsB c = false → (rk c = 0 ∧ (fdT c).2 = (0, 0, 0)) ∨ (rk c = 1 ∧ (fdT c).2.1 ≠ 0 ∧ hasB (fdT c).2.1 0 = false ∧ (fdT c).2.2 = (0, 0)) ∨ (rk c = 2 ∧ (fdT c).2.1 ≠ 0 ∧ hasB (fdT c).2.1 0 = false ∧ (fdT c).2.2.1 ≠ 0 ∧ hasB (fdT c).2.2.1 0 = false ∧ (fdT c).2.2.2 = 0) ∨ (rk c = 3 ∧ (fdT c).2 = (8, 2, 14)) ∨ (rk c = 4 ∧ (fdT c).2 = (8, 9, 0)) ∨ (rk c = 5 ∧ (fdT c).2 = (15, 0, 0)) := by
  refine all_ops (Q := fun c => callsB c = false → (rk c = 0 ∧ (fdT c).2 = (0, 0, 0)) ∨ (rk c = 1 ∧ (fdT c).2.1 ≠ 0 ∧ hasB (fdT c).2.1 0 = false ∧ (fdT c).2.2 = (0, 0)) ∨ (rk c = 2 ∧ (fdT c).2.1 ≠ 0 ∧ hasB (fdT c).2.1 0 = false ∧ (fdT c).2.2.1 ≠ 0 ∧ hasB (fdT c).2.2.1 0 = false ∧ (fdT c).2.2.2 = 0) ∨ (rk c = 3 ∧ (fdT c).2 = (8, 2, 14)) ∨ (rk c = 4 ∧ (fdT c).2 = (8, 9, 0)) ∨ (rk c = 5 ∧ (fdT c).2 = (15, 0, 0))) (by decide +kernel) (fun c hc _ => .inl ?_)
  exact ⟨(out_of c hc).1, by rw [(out_of c hc).2.2.2.2.2.2.2.1]⟩
 intro h
 rcases key c h with ⟨h1, h2⟩ | ⟨h1, h2, h3, h4⟩ | ⟨h1, h2, h3, h4, h5, h6⟩ | ⟨h1, h2⟩ | ⟨h1, h2⟩ | ⟨h1, h2⟩
 ·simp [usesI, h1, h2, us1, tkB]
 ·simp [usesI, h1, h2, h3, h4, us1, tkB]
 ·simp [usesI, h1, h2, h3, h4, h5, h6, us1, tkB]
 ·simp [usesI, h1, h2, us1, tkB, hasB]
 ·simp only [usesI, h1, h2, us1, tkB, hasB]
  by_cases hb : 0 ≤ b
  ·simp [hb, show ¬ b < 0 by omega]
  ·simp [hb, show b < 0 by omega]
 ·simp only [usesI, h1, h2, us1, tkB, hasB]
  by_cases hb : 0 ≤ a
  ·simp [hb, show ¬ a < 0 by omega]
  ·simp [hb, show a < 0 by omega]
end Go.Proofs.Ytbkeneadoccodaa
/- Contract of Uses, the program's: the walk. -/
namespace Go.Proofs.Ytbkeneadoccodaa
open Go.RowKit Go
set_option linter.unusedVariables false
set_option linter.unusedSimpArgs false
abbrev vI (z : Int) : Value := .int .i64 z
abbrev OwN (w : World) (B : Nat) (v : Value) (l : List Int) : Prop := w.ownsRow B 3 1 v l.length (l.map vI)
theorem rowsE_nu {w : World} {l : List Int} {xs : List Value} (h : RowsE 1 (NuE w) l xs) : xs = l.map vI := by
 apply List.ext_getElem?
 intro i
 rw [List.getElem?_map]
 cases hi : l[i]? with
 | none =>
  have h1 := List.getElem?_eq_none_iff.1 hi
  rw [List.getElem?_eq_none_iff.2 (by rw [h.1]; omega)]
  rfl
 | some z =>
  obtain ⟨c, h2, h3⟩ := h.2 i z hi
  rw [h2] at h3
  have := h3 0 (vI z) rfl
  rw [Nat.mul_one, Nat.add_zero] at this
  rw [this]
  rfl
theorem nu_rowsE (w : World) (l : List Int) : RowsE 1 (NuE w) l (l.map vI) := by
 refine ⟨by simp, fun i a hi => ⟨[vI a], rfl, fun j u hj => ?_⟩⟩
 cases j with
 | succ j => simp at hj
 | zero =>
  simp at hj
  subst hj
  rw [Nat.mul_one, Nat.add_zero, List.getElem?_map, hi]
  rfl
theorem OwN.rd {w : World} {B : Nat} {v : Value} {l : List Int} (h : OwN w B v l) (hl : l.length ≤ 140737488355328) : RdX (fun g => B ≤ g ∧ v.ownBlock = some g) 1 NuE w v l := rdX_own h hl (nu_rowsE w l)
theorem info_nuP : (Try.prog.info? 3).map (fun i => (i.zero, i.size, i.bytes)) = some (some (.int .i64 0), 1, 8) := by kernel_rfl
theorem idx3 (a b k : Int) : (∀ w', (Instr.index 149 (.agg #[vI a, vI b, vI k]) (vI 0)).run Try.prog w' = .ok (vI a) w') ∧ (∀ w', (Instr.index 149 (.agg #[vI a, vI b, vI k]) (vI 1)).run Try.prog w' = .ok (vI b) w') ∧ (∀ w', (Instr.index 149 (.agg #[vI a, vI b, vI k]) (vI 2)).run Try.prog w' = .ok (vI k) w') :=
 ⟨fun w' => by kernel_rfl, fun w' => by kernel_rfl, fun w' => by kernel_rfl⟩
theorem tk_ways (f r : Int) : (us1 f r = [] ∧ (f == 0) = true) ∨ (us1 f r = [r] ∧ ¬ f = 0 ∧ ¬ r < 0) ∨ (us1 f r = [] ∧ ¬ f = 0 ∧ r < 0 ∧ hasB f 0 = true) ∨ (us1 f r = [r] ∧ ¬ f = 0 ∧ r < 0 ∧ hasB f 0 = false) := by
 unfold us1 tkB
 by_cases h0 : f = 0
 ·exact .inl (by simp [h0])
 ·by_cases h1 : r < 0
  ·cases h2 : hasB f 0
   ·exact .inr (.inr (.inr (by simp [h0, h1])))
   ·exact .inr (.inr (.inl (by simp [h0, h1])))
  ·exact .inr (.inl (by simp [h0, h1]))
def usU (f1 f2 f3 a b k : Int) (j : Nat) : List Int := (if 0 < j then us1 f1 a else []) ++ (if 1 < j then us1 f2 b else []) ++ (if 2 < j then us1 f3 k else [])
set_option maxHeartbeats 8000000 in
set_option maxRecDepth 100000 in
theorem uses_any {P : Nat → Prop} (x : InI) (v : Value) (w : World) (h : Hid (RdX P 1 NuE w v x.args)) (hby : Hid (x.args.length * 8 ≤ 140737488355328)) :
  Calls Try.prog 70 #[inA x v] w fun e w' => ∃ v', e = .returned v' ∧ OwN w' w.heap.size v' (usesI x) ∧ Below w.heap.size w w' := by
 have hus := uses_us x
 have huc : callsB x.op = true → usesI x = x.args := by
  intro hc
  unfold callsB at hc
  rw [decide_eq_true_eq] at hc
  have : rk x.op = 6 := by
   simp only [List.mem_cons, List.not_mem_nil, or_false] at hc
   rcases hc with e | e | e | e <;> rw [e] <;> decide
  unfold usesI
  rw [this]
  rfl
 have hfs := fd_sets x.op
 have HCa : ∀ w, Hid (Calls Try.prog 102 #[inA x v] w fun e w' => e = .returned (.bool (callsB x.op)) ∧ Below w.heap.size w w') := fun w => lhid (calls_any x v w)
 have HF : ∀ w, Hid (Calls Try.prog 98 #[.int .i64 x.op] w fun e w' => e = .returned (fdV x.op) ∧ Below w.heap.size w w') := fun w => lhid (fieldsOf_any x.op w)
 unfold fdV at HF
 generalize usesI x = U at *
 generalize callsB x.op = z at *
 generalize (fdT x.op).1 = f0 at *
 generalize (fdT x.op).2.1 = f1 at *
 generalize (fdT x.op).2.2.1 = f2 at *
 generalize (fdT x.op).2.2.2 = f3 at *
 obtain ⟨c, d, a, b, k, n, t, r, l⟩ := x
 dsimp only [inA] at *
 cases z
 ·have HU := lhid (hus rfl)
  have HFS := lhid hfs
  clear hus huc hfs
  have hq := field_r f0 f1 f2 f3
  obtain ⟨x0, x1, x2⟩ := idx3 a b k
  obtain ⟨i0, hi0, hz0, hz1, hz2⟩ := info_parts info_nuP
  go_enter Try.func70, Try.ntmps70
  go_wp2_with fail
  with_reducible refine (HCa _).out.mono ?_
  rintro e w1 ⟨rfl, hb⟩
  have h0 := (hb.block w.heap.size (by simp)).trans (heap_alloc_new w _)
  have c0 : w1.cell? ⟨w.heap.size, 0, none⟩ = some (vI c) := heap_cell h0 rfl
  have H0 := lhid h0
  have HB1 := lhid (((Below.refl w.heap.size w).alloc (Nat.le_refl _) _).trans (hb.mono (by simp)))
  have HS1 := lhid (show w.heap.size + 1 ≤ w1.heap.size by have := hb.size; simpa using this)
  clear hb h0
  go_wp2_with fail
  with_reducible refine (HF _).out.mono ?_
  rintro e w2 ⟨rfl, hb⟩
  have h0 := (hb.block w.heap.size (by have := HS1.out; omega)).trans H0.out
  have c2 : w2.cell? ⟨w.heap.size, 2, none⟩ = some (vI a) := heap_cell h0 rfl
  have c3 : w2.cell? ⟨w.heap.size, 3, none⟩ = some (vI b) := heap_cell h0 rfl
  have c4 : w2.cell? ⟨w.heap.size, 4, none⟩ = some (vI k) := heap_cell h0 rfl
  have HB2 := lhid (HB1.out.trans (hb.mono HB1.out.size))
  have hs2 : w.heap.size < w2.heap.size := by have := HS1.out; have := hb.size; omega
  have n2 : ¬ w.heap.size = w2.heap.size := by omega
  have n2' : ¬ w2.heap.size = w.heap.size := by omega
  clear hb h0
  go_wp2_with fail
  have HU0 := lhid (show usU f1 f2 f3 a b k 3 = U from by rw [HU.out]; simp [usU])
  have HW3 := lhid (Below.refl w2.heap.size w2)
  go_loopw [3, 23] (fun v i wr => ∃ (D : List Int) (A : Option Addr) (q j : Nat), v = .slice A D.length q ∧ i = .int .i64 j ∧ j ≤ 3 ∧ Hid (D = usU f1 f2 f3 a b k j) ∧ Hid (OwN wr (w2.heap.size + 1) (.slice A D.length q) D) ∧ Hid (wr.heap[w2.heap.size]? = some (.cells #[.int .u64 f1, .int .u64 f2, .int .u64 f3] 142 (0, 0))) ∧ Hid (Below w.heap.size w wr)) (fun _ i _ => 3 - (intOf i).toNat)
  case atStart => exact ⟨[], none, 0, 0, rfl, rfl, by omega, lhid (by simp [usU]), lhid (World.ownsRow_nil _ _ _ _), lhid (heap_alloc_new _ _), lhid (HB2.out.alloc HB2.out.size _)⟩
  case round =>
   obtain ⟨D, A, q, j, rfl, rfl, hj, HD, HO, HC, HB⟩ := hrel
   have r0 : wr.cell? ⟨w2.heap.size, 0, none⟩ = some (.int .u64 f1) := heap_cell HC.out rfl
   have r1 : wr.cell? ⟨w2.heap.size, 1, none⟩ = some (.int .u64 f2) := heap_cell HC.out rfl
   have r2 : wr.cell? ⟨w2.heap.size, 2, none⟩ = some (.int .u64 f3) := heap_cell HC.out rfl
   have hDl : D.length ≤ 3 := by
    rw [HD.out]
    simp only [usU, us1]
    repeat' split
    all_goals simp
   have hRlt : w2.heap.size < wr.heap.size := heap_lt HC.out
   have hj4 : j = 0 ∨ j = 1 ∨ j = 2 ∨ j = 3 := by omega
   have hfs := HFS.out
   rcases hj4 with rfl | rfl | rfl | rfl
   ·have HH := has_any f1 0 hfs.1 (.inl rfl)
    have HHH := lhid HH
    clear HH hfs
    rcases tk_ways f1 a with ⟨HT, t0⟩ | ⟨HT, t0, t1⟩ | ⟨HT, t0, t1, t2⟩ | ⟨HT, t0, t1, t2⟩
    all_goals
     have hD2 := HD.out
     have HDT := lhid HT
     clear HT
    ·have HD2 : Hid (D = usU f1 f2 f3 a b k 1) := lhid (by rw [HD.out]; simp [usU, HDT.out])
     clear hD2
     obtain rfl := eq_of_beq t0
     clear t0
     go_wp2_with fail
     go_roundw
     case rel => exact ⟨D, A, q, 1, rfl, rfl, by omega, HD2, HO, HC, HB⟩
     case measure => simp [intOf]
    ·have HD2 : Hid (D ++ [a] = usU f1 f2 f3 a b k 1) := lhid (by rw [HD.out]; simp [usU, HDT.out])
     clear hD2
     go_wp2_with (at_builtin; refine wpList_append_own _ rfl (.tmp 42) (.tmp 44) 23 rfl (w2.heap.size + 1) 3 i0 (.int .i64 0) 1 8 Try.underlying23 hi0 hz0 hz1 hz2 rfl (by decide) (.slice A D.length q) D.length (D.map vI) rfl (HO.out.alloc _) ⟨wr.heap.size, 0, none⟩ 1 1 [vI a] rfl rfl ?g0c1 ?g0c2 ?g0c3 ?g0c4 ?g0c5 ?_)
     try case g0c1 => exact new_cells _ _ _
     case g0c2 => first | rfl | (intro u hu; simp at hu; subst hu; rfl)
     case g0c3 => unfold maxLen; omega
     case g0c4 => omega
     case g0c5 => first | omega | (simp; omega)
     intro v' w' hown hgrow hnil
     have hsh := own_shape hown
     obtain ⟨A', q', rfl⟩ := hsh
     have HO2 : Hid (OwN w' (w2.heap.size + 1) (.slice A' (D ++ [a]).length q') (D ++ [a])) := lhid (by simpa [OwN] using hown)
     have HC2 : Hid (w'.heap[w2.heap.size]? = some (.cells #[.int .u64 f1, .int .u64 f2, .int .u64 f3] 142 (0, 0))) := lhid ((hgrow.block w2.heap.size (by simp; omega) (fun e => by have := own_lt HO.out w2.heap.size (by first | exact e.symm | exact e); omega)).trans ((Below.heap_alloc _ _ _ hRlt).trans HC.out))
     have HB3 := lhid (Below.grown (HB.out.alloc HB.out.size _) hgrow (by simp; have := HB.out.size; omega) (fun k e => by have := own_lt HO.out k e; omega))
     obtain ⟨E, hE⟩ : ∃ E, D ++ [a] = E := ⟨_, rfl⟩
     have hEl : D.length + 1 = E.length := by rw [← hE]; simp
     rw [hE] at HO2 HD2
     clear hown hgrow hnil hE
     go_wp2_with fail
     go_roundw
     case rel => exact ⟨E, A', q', 1, by rw [hEl], rfl, by omega, HD2, HO2, HC2, HB3⟩
     case measure => simp [intOf]
    ·have HD2 : Hid (D = usU f1 f2 f3 a b k 1) := lhid (by rw [HD.out]; simp [usU, HDT.out])
     clear hD2
     rw [t2] at HHH
     go_wp2_with fail
     with_reducible refine (HHH.out _).mono ?_
     rintro e w3 ⟨rfl, rfl⟩
     go_wp2_with fail
     go_roundw
     case rel => exact ⟨D, A, q, 1, rfl, rfl, by omega, HD2, HO, HC, HB⟩
     case measure => simp [intOf]
    ·rw [t2] at HHH
     have HD2 : Hid (D ++ [a] = usU f1 f2 f3 a b k 1) := lhid (by rw [HD.out]; simp [usU, HDT.out])
     clear hD2
     go_wp2_with fail
     with_reducible refine (HHH.out _).mono ?_
     rintro e w3 ⟨rfl, rfl⟩
     go_wp2_with (at_builtin; refine wpList_append_own _ rfl (.tmp 42) (.tmp 44) 23 rfl (w2.heap.size + 1) 3 i0 (.int .i64 0) 1 8 Try.underlying23 hi0 hz0 hz1 hz2 rfl (by decide) (.slice A D.length q) D.length (D.map vI) rfl (HO.out.alloc _) ⟨wr.heap.size, 0, none⟩ 1 1 [vI a] rfl rfl ?g1c1 ?g1c2 ?g1c3 ?g1c4 ?g1c5 ?_)
     try case g1c1 => exact new_cells _ _ _
     case g1c2 => first | rfl | (intro u hu; simp at hu; subst hu; rfl)
     case g1c3 => unfold maxLen; omega
     case g1c4 => omega
     case g1c5 => first | omega | (simp; omega)
     intro v' w' hown hgrow hnil
     have hsh := own_shape hown
     obtain ⟨A', q', rfl⟩ := hsh
     have HO2 : Hid (OwN w' (w2.heap.size + 1) (.slice A' (D ++ [a]).length q') (D ++ [a])) := lhid (by simpa [OwN] using hown)
     have HC2 : Hid (w'.heap[w2.heap.size]? = some (.cells #[.int .u64 f1, .int .u64 f2, .int .u64 f3] 142 (0, 0))) := lhid ((hgrow.block w2.heap.size (by simp; omega) (fun e => by have := own_lt HO.out w2.heap.size (by first | exact e.symm | exact e); omega)).trans ((Below.heap_alloc _ _ _ hRlt).trans HC.out))
     have HB3 := lhid (Below.grown (HB.out.alloc HB.out.size _) hgrow (by simp; have := HB.out.size; omega) (fun k e => by have := own_lt HO.out k e; omega))
     obtain ⟨E, hE⟩ : ∃ E, D ++ [a] = E := ⟨_, rfl⟩
     have hEl : D.length + 1 = E.length := by rw [← hE]; simp
     rw [hE] at HO2 HD2
     clear hown hgrow hnil hE
     go_wp2_with fail
     go_roundw
     case rel => exact ⟨E, A', q', 1, by rw [hEl], rfl, by omega, HD2, HO2, HC2, HB3⟩
     case measure => simp [intOf]
   ·have HH := has_any f2 0 hfs.2.1 (.inl rfl)
    have HHH := lhid HH
    clear HH hfs
    rcases tk_ways f2 b with ⟨HT, t0⟩ | ⟨HT, t0, t1⟩ | ⟨HT, t0, t1, t2⟩ | ⟨HT, t0, t1, t2⟩
    all_goals
     have hD2 := HD.out
     have HDT := lhid HT
     clear HT
    ·have HD2 : Hid (D = usU f1 f2 f3 a b k 2) := lhid (by rw [HD.out]; simp [usU, HDT.out])
     clear hD2
     obtain rfl := eq_of_beq t0
     clear t0
     go_wp2_with fail
     go_roundw
     case rel => exact ⟨D, A, q, 2, rfl, rfl, by omega, HD2, HO, HC, HB⟩
     case measure => simp [intOf]
    ·have HD2 : Hid (D ++ [b] = usU f1 f2 f3 a b k 2) := lhid (by rw [HD.out]; simp [usU, HDT.out])
     clear hD2
     go_wp2_with (at_builtin; refine wpList_append_own _ rfl (.tmp 42) (.tmp 44) 23 rfl (w2.heap.size + 1) 3 i0 (.int .i64 0) 1 8 Try.underlying23 hi0 hz0 hz1 hz2 rfl (by decide) (.slice A D.length q) D.length (D.map vI) rfl (HO.out.alloc _) ⟨wr.heap.size, 0, none⟩ 1 1 [vI b] rfl rfl ?g2c1 ?g2c2 ?g2c3 ?g2c4 ?g2c5 ?_)
     try case g2c1 => exact new_cells _ _ _
     case g2c2 => first | rfl | (intro u hu; simp at hu; subst hu; rfl)
     case g2c3 => unfold maxLen; omega
     case g2c4 => omega
     case g2c5 => first | omega | (simp; omega)
     intro v' w' hown hgrow hnil
     have hsh := own_shape hown
     obtain ⟨A', q', rfl⟩ := hsh
     have HO2 : Hid (OwN w' (w2.heap.size + 1) (.slice A' (D ++ [b]).length q') (D ++ [b])) := lhid (by simpa [OwN] using hown)
     have HC2 : Hid (w'.heap[w2.heap.size]? = some (.cells #[.int .u64 f1, .int .u64 f2, .int .u64 f3] 142 (0, 0))) := lhid ((hgrow.block w2.heap.size (by simp; omega) (fun e => by have := own_lt HO.out w2.heap.size (by first | exact e.symm | exact e); omega)).trans ((Below.heap_alloc _ _ _ hRlt).trans HC.out))
     have HB3 := lhid (Below.grown (HB.out.alloc HB.out.size _) hgrow (by simp; have := HB.out.size; omega) (fun k e => by have := own_lt HO.out k e; omega))
     obtain ⟨E, hE⟩ : ∃ E, D ++ [b] = E := ⟨_, rfl⟩
     have hEl : D.length + 1 = E.length := by rw [← hE]; simp
     rw [hE] at HO2 HD2
     clear hown hgrow hnil hE
     go_wp2_with fail
     go_roundw
     case rel => exact ⟨E, A', q', 2, by rw [hEl], rfl, by omega, HD2, HO2, HC2, HB3⟩
     case measure => simp [intOf]
    ·have HD2 : Hid (D = usU f1 f2 f3 a b k 2) := lhid (by rw [HD.out]; simp [usU, HDT.out])
     clear hD2
     rw [t2] at HHH
     go_wp2_with fail
     with_reducible refine (HHH.out _).mono ?_
     rintro e w3 ⟨rfl, rfl⟩
     go_wp2_with fail
     go_roundw
     case rel => exact ⟨D, A, q, 2, rfl, rfl, by omega, HD2, HO, HC, HB⟩
     case measure => simp [intOf]
    ·rw [t2] at HHH
     have HD2 : Hid (D ++ [b] = usU f1 f2 f3 a b k 2) := lhid (by rw [HD.out]; simp [usU, HDT.out])
     clear hD2
     go_wp2_with fail
     with_reducible refine (HHH.out _).mono ?_
     rintro e w3 ⟨rfl, rfl⟩
     go_wp2_with (at_builtin; refine wpList_append_own _ rfl (.tmp 42) (.tmp 44) 23 rfl (w2.heap.size + 1) 3 i0 (.int .i64 0) 1 8 Try.underlying23 hi0 hz0 hz1 hz2 rfl (by decide) (.slice A D.length q) D.length (D.map vI) rfl (HO.out.alloc _) ⟨wr.heap.size, 0, none⟩ 1 1 [vI b] rfl rfl ?g3c1 ?g3c2 ?g3c3 ?g3c4 ?g3c5 ?_)
     try case g3c1 => exact new_cells _ _ _
     case g3c2 => first | rfl | (intro u hu; simp at hu; subst hu; rfl)
     case g3c3 => unfold maxLen; omega
     case g3c4 => omega
     case g3c5 => first | omega | (simp; omega)
     intro v' w' hown hgrow hnil
     have hsh := own_shape hown
     obtain ⟨A', q', rfl⟩ := hsh
     have HO2 : Hid (OwN w' (w2.heap.size + 1) (.slice A' (D ++ [b]).length q') (D ++ [b])) := lhid (by simpa [OwN] using hown)
     have HC2 : Hid (w'.heap[w2.heap.size]? = some (.cells #[.int .u64 f1, .int .u64 f2, .int .u64 f3] 142 (0, 0))) := lhid ((hgrow.block w2.heap.size (by simp; omega) (fun e => by have := own_lt HO.out w2.heap.size (by first | exact e.symm | exact e); omega)).trans ((Below.heap_alloc _ _ _ hRlt).trans HC.out))
     have HB3 := lhid (Below.grown (HB.out.alloc HB.out.size _) hgrow (by simp; have := HB.out.size; omega) (fun k e => by have := own_lt HO.out k e; omega))
     obtain ⟨E, hE⟩ : ∃ E, D ++ [b] = E := ⟨_, rfl⟩
     have hEl : D.length + 1 = E.length := by rw [← hE]; simp
     rw [hE] at HO2 HD2
     clear hown hgrow hnil hE
     go_wp2_with fail
     go_roundw
     case rel => exact ⟨E, A', q', 2, by rw [hEl], rfl, by omega, HD2, HO2, HC2, HB3⟩
     case measure => simp [intOf]
   ·have HH := has_any f3 0 hfs.2.2.1 (.inl rfl)
    have HHH := lhid HH
    clear HH hfs
    rcases tk_ways f3 k with ⟨HT, t0⟩ | ⟨HT, t0, t1⟩ | ⟨HT, t0, t1, t2⟩ | ⟨HT, t0, t1, t2⟩
    all_goals
     have hD2 := HD.out
     have HDT := lhid HT
     clear HT
    ·have HD2 : Hid (D = usU f1 f2 f3 a b k 3) := lhid (by rw [HD.out]; simp [usU, HDT.out])
     clear hD2
     obtain rfl := eq_of_beq t0
     clear t0
     go_wp2_with fail
     go_roundw
     case rel => exact ⟨D, A, q, 3, rfl, rfl, by omega, HD2, HO, HC, HB⟩
     case measure => simp [intOf]
    ·have HD2 : Hid (D ++ [k] = usU f1 f2 f3 a b k 3) := lhid (by rw [HD.out]; simp [usU, HDT.out])
     clear hD2
     go_wp2_with (at_builtin; refine wpList_append_own _ rfl (.tmp 42) (.tmp 44) 23 rfl (w2.heap.size + 1) 3 i0 (.int .i64 0) 1 8 Try.underlying23 hi0 hz0 hz1 hz2 rfl (by decide) (.slice A D.length q) D.length (D.map vI) rfl (HO.out.alloc _) ⟨wr.heap.size, 0, none⟩ 1 1 [vI k] rfl rfl ?g4c1 ?g4c2 ?g4c3 ?g4c4 ?g4c5 ?_)
     try case g4c1 => exact new_cells _ _ _
     case g4c2 => first | rfl | (intro u hu; simp at hu; subst hu; rfl)
     case g4c3 => unfold maxLen; omega
     case g4c4 => omega
     case g4c5 => first | omega | (simp; omega)
     intro v' w' hown hgrow hnil
     have hsh := own_shape hown
     obtain ⟨A', q', rfl⟩ := hsh
     have HO2 : Hid (OwN w' (w2.heap.size + 1) (.slice A' (D ++ [k]).length q') (D ++ [k])) := lhid (by simpa [OwN] using hown)
     have HC2 : Hid (w'.heap[w2.heap.size]? = some (.cells #[.int .u64 f1, .int .u64 f2, .int .u64 f3] 142 (0, 0))) := lhid ((hgrow.block w2.heap.size (by simp; omega) (fun e => by have := own_lt HO.out w2.heap.size (by first | exact e.symm | exact e); omega)).trans ((Below.heap_alloc _ _ _ hRlt).trans HC.out))
     have HB3 := lhid (Below.grown (HB.out.alloc HB.out.size _) hgrow (by simp; have := HB.out.size; omega) (fun k e => by have := own_lt HO.out k e; omega))
     obtain ⟨E, hE⟩ : ∃ E, D ++ [k] = E := ⟨_, rfl⟩
     have hEl : D.length + 1 = E.length := by rw [← hE]; simp
     rw [hE] at HO2 HD2
     clear hown hgrow hnil hE
     go_wp2_with fail
     go_roundw
     case rel => exact ⟨E, A', q', 3, by rw [hEl], rfl, by omega, HD2, HO2, HC2, HB3⟩
     case measure => simp [intOf]
    ·have HD2 : Hid (D = usU f1 f2 f3 a b k 3) := lhid (by rw [HD.out]; simp [usU, HDT.out])
     clear hD2
     rw [t2] at HHH
     go_wp2_with fail
     with_reducible refine (HHH.out _).mono ?_
     rintro e w3 ⟨rfl, rfl⟩
     go_wp2_with fail
     go_roundw
     case rel => exact ⟨D, A, q, 3, rfl, rfl, by omega, HD2, HO, HC, HB⟩
     case measure => simp [intOf]
    ·rw [t2] at HHH
     have HD2 : Hid (D ++ [k] = usU f1 f2 f3 a b k 3) := lhid (by rw [HD.out]; simp [usU, HDT.out])
     clear hD2
     go_wp2_with fail
     with_reducible refine (HHH.out _).mono ?_
     rintro e w3 ⟨rfl, rfl⟩
     go_wp2_with (at_builtin; refine wpList_append_own _ rfl (.tmp 42) (.tmp 44) 23 rfl (w2.heap.size + 1) 3 i0 (.int .i64 0) 1 8 Try.underlying23 hi0 hz0 hz1 hz2 rfl (by decide) (.slice A D.length q) D.length (D.map vI) rfl (HO.out.alloc _) ⟨wr.heap.size, 0, none⟩ 1 1 [vI k] rfl rfl ?g5c1 ?g5c2 ?g5c3 ?g5c4 ?g5c5 ?_)
     try case g5c1 => exact new_cells _ _ _
     case g5c2 => first | rfl | (intro u hu; simp at hu; subst hu; rfl)
     case g5c3 => unfold maxLen; omega
     case g5c4 => omega
     case g5c5 => first | omega | (simp; omega)
     intro v' w' hown hgrow hnil
     have hsh := own_shape hown
     obtain ⟨A', q', rfl⟩ := hsh
     have HO2 : Hid (OwN w' (w2.heap.size + 1) (.slice A' (D ++ [k]).length q') (D ++ [k])) := lhid (by simpa [OwN] using hown)
     have HC2 : Hid (w'.heap[w2.heap.size]? = some (.cells #[.int .u64 f1, .int .u64 f2, .int .u64 f3] 142 (0, 0))) := lhid ((hgrow.block w2.heap.size (by simp; omega) (fun e => by have := own_lt HO.out w2.heap.size (by first | exact e.symm | exact e); omega)).trans ((Below.heap_alloc _ _ _ hRlt).trans HC.out))
     have HB3 := lhid (Below.grown (HB.out.alloc HB.out.size _) hgrow (by simp; have := HB.out.size; omega) (fun k e => by have := own_lt HO.out k e; omega))
     obtain ⟨E, hE⟩ : ∃ E, D ++ [k] = E := ⟨_, rfl⟩
     have hEl : D.length + 1 = E.length := by rw [← hE]; simp
     rw [hE] at HO2 HD2
     clear hown hgrow hnil hE
     go_wp2_with fail
     go_roundw
     case rel => exact ⟨E, A', q', 3, by rw [hEl], rfl, by omega, HD2, HO2, HC2, HB3⟩
     case measure => simp [intOf]
   ·go_wp2_with fail
    go_ret
    refine ⟨_, rfl, ?_, HB.out⟩
    rw [← HU0.out, ← HD.out]
    exact own_base HO.out (by omega)
 ·have HU := lhid (huc rfl)
  clear hus huc hfs
  have HX := h
  go_enter Try.func70, Try.ntmps70
  go_wp2_with fail
  with_reducible refine (HCa _).out.mono ?_
  rintro e w1 ⟨rfl, hb⟩
  have h0 := (hb.block w.heap.size (by simp)).trans (heap_alloc_new w _)
  have c8 : w1.cell? ⟨w.heap.size, 8, none⟩ = some v := heap_cell h0 rfl
  have hb1 := ((Below.refl w.heap.size w).alloc (Nat.le_refl _) _).trans (hb.mono (by simp))
  have HB1 := lhid hb1
  have HX1 := lhid (h.out.below (keptX_nu _) hb1)
  clear hb h0 hb1
  go_wp2_with fail
  with_reducible refine (clone_nu row_nu _ _ _ HX1 hby.out).mono ?_
  rintro e w2 ⟨v', xs, rfl, ho, hr, hb⟩
  have HB2 := lhid (HB1.out.trans (hb.mono HB1.out.size))
  have HO := lhid ho
  have HR := lhid (rowsE_nu hr)
  have HS := lhid HB1.out.size
  clear ho hr hb
  go_wp2_with fail
  go_ret
  refine ⟨_, rfl, ?_, HB2.out⟩
  rw [HU.out]
  have := HO.out
  rw [HR.out] at this
  exact own_base this HS.out
end Go.Proofs.Ytbkeneadoccodaa
/- Contracts of the document's words on the table: Ints, in, row, Calls, Throws, Pure, Leads, Ends, Def. -/
namespace Go.Proofs.Ytbkeneadoccodaa
open Go.RowKit Go
set_option linter.unusedVariables false
set_option linter.unusedSimpArgs false
def Tru (_ : Nat) : Prop := True
theorem rd_lit (w : World) (l : List Int) (c : Array Value) (n m : Nat) (T : TypeId) (hc : c = (l.map fun z => Value.int .i64 z).toArray) (hn : n = l.length) (hl : l.length ≤ 140737488355328) : RdX Tru 1 NuE (w.alloc (.cells c T)) (.slice (some ⟨w.heap.size, 0, none⟩) n m) l := by
 subst hc hn
 refine ⟨_, m, rfl, fun e => (by cases e), hl, fun i a hi => ⟨w.heap.size, 0, [.int .i64 a], rfl, trivial, rfl, fun j u hj => ?_⟩⟩
 cases j with
 | succ j => simp at hj
 | zero =>
  simp at hj
  subst hj
  refine heap_cell (heap_alloc_new w _) ?_
  simp [hi]
set_option maxHeartbeats 1000000 in
set_option maxRecDepth 100000 in
theorem rin_any {P : Nat → Prop} (c : Int) (v : Value) (l : List Int) (w : World) (h : Hid (RdX P 1 NuE w v l)) :
  Calls Try.prog 23 #[.int .i64 c, v] w fun e w' => e = .returned (.bool (decide (c ∈ l))) ∧ w = w' := by
 obtain ⟨A, cap, rfl⟩ := h.out.shape
 have hl := h.out.len
 go_enter Try.func23, Try.ntmps23
 go_wp2_with fail
 go_loopw [5] (fun i wr => ∃ k : Nat, i = .int .i64 k ∧ k ≤ l.length ∧ Hid (c ∉ l.take k) ∧ wr = w) (fun i _ => l.length - (intOf i).toNat)
 case atStart => exact ⟨0, rfl, Nat.zero_le _, lhid (by simp), rfl⟩
 case round =>
  obtain ⟨k, rfl, hk, HN, rfl⟩ := hrel
  by_cases hlt : k < l.length
  ·obtain ⟨x, hx⟩ : ∃ x, l[k]? = some x := ⟨_, List.getElem?_eq_getElem hlt⟩
   obtain ⟨g, o, cc, rfl, _, hE, hc⟩ := h.out.at' hx
   have c0 : wr.cell? ⟨g, o + k, none⟩ = some (.int .i64 x) := by
    have := hc 0 (.int .i64 x) (by rw [hE]; rfl)
    rwa [Nat.mul_one] at this
   have k3 : (k : Int) < l.length := by omega
   have HX := lhid hx
   clear hx hc hE
   by_cases hxc : x = c
   ·have HM := lhid (List.mem_of_getElem? HX.out)
    have d0 : (x == c) = true := by rw [hxc]; simp
    have HXC := lhid hxc
    clear hxc
    go_wp2_with fail
    go_ret
    exact ⟨ret_bool (by rw [← HXC.out, decide_eq_true HM.out]), rfl⟩
   ·have d0 : (x == c) = false := by rw [beq_eq_false_iff_ne]; exact hxc
    have HM2 : Hid (c ∉ l.take (k + 1)) := lhid (by rw [List.take_add_one, HX.out]; simp only [Option.toList_some, List.mem_append, List.mem_singleton, not_or]; exact ⟨HN.out, fun e => hxc e.symm⟩)
    clear hxc
    go_wp2_with fail
    go_roundw
    case rel => exact ⟨k + 1, by go_num, by omega, HM2, trivial⟩
    case measure => simp [intOf]; omega
  ·have k3 : ¬ (k : Int) < l.length := by omega
   have hn := HN.out
   rw [List.take_of_length_le (by omega)] at hn
   have HN2 := lhid hn
   clear hn HN
   go_wp2_with fail
   go_ret
   exact ⟨ret_bool (by rw [decide_eq_false HN2.out]), rfl⟩
theorem rin_r {P : Nat → Prop} (c : Int) (v : Value) (l : List Int) (r : Bool) (w : World) (h : RdX P 1 NuE w v l) (hr : Hid (decide (c ∈ l) = r)) :
  Calls Try.prog 23 #[.int .i64 c, v] w fun e w' => e = .returned (.bool r) ∧ w = w' := by
 have := rin_any c v l w (lhid h)
 rwa [hr.out] at this
set_option maxHeartbeats 1000000 in
set_option maxRecDepth 100000 in
theorem rleads_any (c : Int) (w : World) :
  Calls Try.prog 25 #[.int .i64 c] w fun e w' => e = .returned (.bool (leadsB c)) ∧ Below w.heap.size w w' := by
 go_enter Try.func25, Try.ntmps25
 go_wp2_with fail
 with_reducible refine (rin_r c _ [27, 28, 29] (leadsB c) _ (rd_lit _ _ _ _ _ _ (by with_unfolding_all rfl) (by with_unfolding_all rfl) (by decide)) (lhid rfl)).mono ?_
 rintro e w1 ⟨rfl, rfl⟩
 go_wp2_with fail
 go_ret
 exact ⟨rfl, (Below.refl w.heap.size w).alloc (Nat.le_refl _) _⟩
set_option maxHeartbeats 1000000 in
set_option maxRecDepth 100000 in
theorem rends_any (c : Int) (w : World) :
  Calls Try.prog 21 #[.int .i64 c] w fun e w' => e = .returned (.bool (endsB c)) ∧ Below w.heap.size w w' := by
 go_enter Try.func21, Try.ntmps21
 go_wp2_with fail
 with_reducible refine (rin_r c _ [27, 30, 31] (endsB c) _ (rd_lit _ _ _ _ _ _ (by with_unfolding_all rfl) (by with_unfolding_all rfl) (by decide)) (lhid rfl)).mono ?_
 rintro e w1 ⟨rfl, rfl⟩
 go_wp2_with fail
 go_ret
 exact ⟨rfl, (Below.refl w.heap.size w).alloc (Nat.le_refl _) _⟩
end Go.Proofs.Ytbkeneadoccodaa
/- Contract of the document's row. -/
namespace Go.Proofs.Ytbkeneadoccodaa
open Go.RowKit Go
set_option linter.unusedVariables false
set_option linter.unusedSimpArgs false
theorem tab_at (w : World) (T : TypeId) (n : Nat) (hn : n < 34) : (w.alloc (.cells #[.string ⟨#[]⟩, .string ⟨#[110, 45, 45, 45]⟩, .string ⟨#[51, 45, 45, 45]⟩, .string ⟨#[51, 45, 45, 45]⟩, .string ⟨#[42, 61, 45, 45]⟩, .string ⟨#[63, 63, 63, 63]⟩, .string ⟨#[63, 63, 63, 63]⟩, .string ⟨#[45, 110, 45, 45]⟩, .string ⟨#[45, 51, 45, 45]⟩, .string ⟨#[45, 51, 49, 45]⟩, .string ⟨#[45, 49, 45, 45]⟩, .string ⟨#[45, 51, 51, 45]⟩, .string ⟨#[45, 51, 45, 45]⟩, .string ⟨#[42, 51, 49, 45]⟩, .string ⟨#[45, 51, 49, 42]⟩, .string ⟨#[49, 51, 45, 45]⟩, .string ⟨#[42, 51, 45, 45]⟩, .string ⟨#[45, 51, 42, 45]⟩, .string ⟨#[42, 45, 45, 45]⟩, .string ⟨#[45, 42, 45, 45]⟩, .string ⟨#[51, 45, 45, 45]⟩, .string ⟨#[51, 49, 45, 45]⟩, .string ⟨#[49, 51, 45, 45]⟩, .string ⟨#[63, 63, 63, 63]⟩, .string ⟨#[63, 63, 63, 63]⟩, .string ⟨#[63, 63, 63, 63]⟩, .string ⟨#[63, 63, 63, 63]⟩, .string ⟨#[45, 45, 45, 45]⟩, .string ⟨#[45, 49, 49, 45]⟩, .string ⟨#[45, 51, 63, 45]⟩, .string ⟨#[45, 63, 45, 45]⟩, .string ⟨#[45, 51, 45, 45]⟩, .string ⟨#[51, 45, 45, 45]⟩, .string ⟨#[45, 45, 45, 45]⟩] T)).cell? ⟨w.heap.size, n, none⟩ = some (.string (tx (rowT n))) := by
 refine heap_cell (heap_alloc_new w _) ?_
 have e : (#[.string ⟨#[]⟩, .string ⟨#[110, 45, 45, 45]⟩, .string ⟨#[51, 45, 45, 45]⟩, .string ⟨#[51, 45, 45, 45]⟩, .string ⟨#[42, 61, 45, 45]⟩, .string ⟨#[63, 63, 63, 63]⟩, .string ⟨#[63, 63, 63, 63]⟩, .string ⟨#[45, 110, 45, 45]⟩, .string ⟨#[45, 51, 45, 45]⟩, .string ⟨#[45, 51, 49, 45]⟩, .string ⟨#[45, 49, 45, 45]⟩, .string ⟨#[45, 51, 51, 45]⟩, .string ⟨#[45, 51, 45, 45]⟩, .string ⟨#[42, 51, 49, 45]⟩, .string ⟨#[45, 51, 49, 42]⟩, .string ⟨#[49, 51, 45, 45]⟩, .string ⟨#[42, 51, 45, 45]⟩, .string ⟨#[45, 51, 42, 45]⟩, .string ⟨#[42, 45, 45, 45]⟩, .string ⟨#[45, 42, 45, 45]⟩, .string ⟨#[51, 45, 45, 45]⟩, .string ⟨#[51, 49, 45, 45]⟩, .string ⟨#[49, 51, 45, 45]⟩, .string ⟨#[63, 63, 63, 63]⟩, .string ⟨#[63, 63, 63, 63]⟩, .string ⟨#[63, 63, 63, 63]⟩, .string ⟨#[63, 63, 63, 63]⟩, .string ⟨#[45, 45, 45, 45]⟩, .string ⟨#[45, 49, 49, 45]⟩, .string ⟨#[45, 51, 63, 45]⟩, .string ⟨#[45, 63, 45, 45]⟩, .string ⟨#[45, 51, 45, 45]⟩, .string ⟨#[51, 45, 45, 45]⟩, .string ⟨#[45, 45, 45, 45]⟩] : Array Value) = ((List.range 34).map fun k : Nat => Value.string (tx (rowT k))).toArray := by kernel_rfl
 rw [e]
 simp [hn]
theorem tab_world (w : World) (T : TypeId) (w1 : World) (h : w1 = w.alloc (.cells #[.string ⟨#[]⟩, .string ⟨#[110, 45, 45, 45]⟩, .string ⟨#[51, 45, 45, 45]⟩, .string ⟨#[51, 45, 45, 45]⟩, .string ⟨#[42, 61, 45, 45]⟩, .string ⟨#[63, 63, 63, 63]⟩, .string ⟨#[63, 63, 63, 63]⟩, .string ⟨#[45, 110, 45, 45]⟩, .string ⟨#[45, 51, 45, 45]⟩, .string ⟨#[45, 51, 49, 45]⟩, .string ⟨#[45, 49, 45, 45]⟩, .string ⟨#[45, 51, 51, 45]⟩, .string ⟨#[45, 51, 45, 45]⟩, .string ⟨#[42, 51, 49, 45]⟩, .string ⟨#[45, 51, 49, 42]⟩, .string ⟨#[49, 51, 45, 45]⟩, .string ⟨#[42, 51, 45, 45]⟩, .string ⟨#[45, 51, 42, 45]⟩, .string ⟨#[42, 45, 45, 45]⟩, .string ⟨#[45, 42, 45, 45]⟩, .string ⟨#[51, 45, 45, 45]⟩, .string ⟨#[51, 49, 45, 45]⟩, .string ⟨#[49, 51, 45, 45]⟩, .string ⟨#[63, 63, 63, 63]⟩, .string ⟨#[63, 63, 63, 63]⟩, .string ⟨#[63, 63, 63, 63]⟩, .string ⟨#[63, 63, 63, 63]⟩, .string ⟨#[45, 45, 45, 45]⟩, .string ⟨#[45, 49, 49, 45]⟩, .string ⟨#[45, 51, 63, 45]⟩, .string ⟨#[45, 63, 45, 45]⟩, .string ⟨#[45, 51, 45, 45]⟩, .string ⟨#[51, 45, 45, 45]⟩, .string ⟨#[45, 45, 45, 45]⟩] T)) (n : Nat) (hn : n < 34) : w1.cell? ⟨w.heap.size, n, none⟩ = some (.string (tx (rowT n))) ∧ Below w.heap.size w w1 := by
 subst h
 exact ⟨tab_at w T n hn, (Below.refl w.heap.size w).alloc (Nat.le_refl _) _⟩
set_option maxHeartbeats 8000000 in
set_option maxRecDepth 100000 in
theorem rrow_any (c : Int) (w : World) :
  Calls Try.prog 50 #[.int .i64 c] w fun e w' => e = .returned (.string (tx (rowT c))) ∧ Below w.heap.size w w' := by
 by_cases ho : c < 1 ∨ 34 ≤ c
 ·have HR := lhid (out_of c ho).2.2.2.2.2.2.2.2
  by_cases h1 : c < 1
  ·clear ho
   go_enter Try.func50, Try.ntmps50
   go_wp2
   go_ret
   exact ⟨by rw [HR.out]; rfl, (Below.refl w.heap.size w).alloc (Nat.le_refl _) _⟩
  ·have h2 : 34 ≤ c := by omega
   clear ho
   go_enter Try.func50, Try.ntmps50
   go_wp2
   go_ret
   exact ⟨by rw [HR.out]; rfl, (Below.refl w.heap.size w).alloc (Nat.le_refl _) _⟩
 ·obtain ⟨n, rfl, hn1, hn⟩ : ∃ n : Nat, c = n ∧ 1 ≤ n ∧ n < 34 := ⟨c.toNat, by omega, by omega, by omega⟩
  have q1 : ¬ (n : Int) < 1 := by omega
  have q2 : ¬ (34 : Int) ≤ n := by omega
  have q3 : (n : Int) < 34 := by omega
  clear ho
  go_enter Try.func50, Try.ntmps50
  go_upto_region 4 with fail
  generalize hw : w.alloc _ = w1
  obtain ⟨hc, hb⟩ := tab_world w 9 w1 hw.symm n hn
  have HB := lhid hb
  have q4 : (0 : Int) ≤ n := by omega
  clear hw hb hn1 hn
  go_wp2
  go_ret
  exact ⟨rfl, HB.out⟩
end Go.Proofs.Ytbkeneadoccodaa
/- Contracts of the document's Ints, Def, Uses. -/
namespace Go.Proofs.Ytbkeneadoccodaa
open Go.RowKit Go
set_option linter.unusedVariables false
set_option linter.unusedSimpArgs false
theorem take_on {α : Type} {l m : List α} {k : Nat} {x y : α} (hx : l[k]? = some x) (hy : m[k]? = some y) (h : l.take k = m.take k) (e : x = y) : l.take (k + 1) = m.take (k + 1) := by
 rw [List.take_add_one, List.take_add_one, hx, hy, h, e]
theorem ne_at {α : Type} {l m : List α} {k : Nat} {x y : α} (hx : l[k]? = some x) (hy : m[k]? = some y) (e : x ≠ y) : l ≠ m := fun h => e (by rw [h, hy] at hx; exact (Option.some.inj hx).symm)
set_option maxHeartbeats 4000000 in
set_option maxRecDepth 100000 in
theorem rints_any {P Q : Nat → Prop} (v u : Value) (l m : List Int) (w : World) (h1 : Hid (RdX P 1 NuE w v l)) (h2 : Hid (RdX Q 1 NuE w u m)) :
  Calls Try.prog 30 #[v, u] w fun e w' => e = .returned (.bool (decide (l = m))) ∧ ∃ n, w' = w.drewN n := by
 obtain ⟨A, cA, rfl⟩ := h1.out.shape
 obtain ⟨B, cB, rfl⟩ := h2.out.shape
 have hl1 := h1.out.len
 have hl2 := h2.out.len
 by_cases hlen : l.length = m.length
 case neg =>
  have e1 : ((l.length : Int) == m.length) = false := by rw [beq_eq_false_iff_ne]; omega
  have e2 : ((l.length : Int) != m.length) = true := by rw [bne, e1]; rfl
  have HNE : Hid (l ≠ m) := lhid (fun e => hlen (by rw [e]))
  clear hlen
  go_enter Try.func30, Try.ntmps30
  go_wp2_with fail
  go_ret
  exact ⟨ret_bool (by rw [decide_eq_false HNE.out]), 0, rfl⟩
 have e1 : ((l.length : Int) == m.length) = true := by rw [beq_iff_eq]; omega
 have e2 : ((l.length : Int) != m.length) = false := by rw [bne, e1]; rfl
 have HL := lhid hlen
 clear hlen
 go_enter Try.func30, Try.ntmps30
 go_wp2_with fail
 go_loopw [5] (fun i wr => ∃ k n : Nat, i = .int .i64 k ∧ k ≤ l.length ∧ Hid (l.take k = m.take k) ∧ wr = w.drewN n) (fun i _ => l.length - (intOf i).toNat)
 case atStart => exact ⟨0, 0, rfl, Nat.zero_le _, lhid (by simp), rfl⟩
 case round =>
  obtain ⟨k, n, rfl, hk, HE, rfl⟩ := hrel
  by_cases hlt : k < l.length
  ·have hmt : k < m.length := by have := HL.out; omega
   obtain ⟨x, hx⟩ : ∃ x, l[k]? = some x := ⟨_, List.getElem?_eq_getElem hlt⟩
   obtain ⟨y, hy⟩ : ∃ y, m[k]? = some y := ⟨_, List.getElem?_eq_getElem hmt⟩
   have HX := lhid hx
   have HY := lhid hy
   obtain ⟨g, o, cc, rfl, _, hE, hc⟩ := h1.out.at' hx
   obtain ⟨g', o', cc', rfl, _, hE', hd⟩ := h2.out.at' hy
   have c0 : w.cell? ⟨g, o + k, none⟩ = some (.int .i64 x) := by
    have := hc 0 (.int .i64 x) (by rw [hE]; rfl)
    rwa [Nat.mul_one] at this
   have d0 : w.cell? ⟨g', o' + k, none⟩ = some (.int .i64 y) := by
    have := hd 0 (.int .i64 y) (by rw [hE']; rfl)
    rwa [Nat.mul_one] at this
   have k3 : (k : Int) < l.length := by omega
   have k4 : (k : Int) < m.length := by omega
   clear hx hy hc hd hE hE'
   by_cases q0 : x = y
   case neg =>
    have HNE : Hid (l ≠ m) := lhid (ne_at HX.out HY.out (fun e => q0 e))
    go_wp2_with fail
    go_quiet (fail)
    go_wp2_with fail
    go_ret
    exact ⟨ret_bool (by rw [decide_eq_false HNE.out]), _, World.drewN_drewN _ _ _⟩
   have HE2 : Hid (l.take (k + 1) = m.take (k + 1)) := lhid (take_on HX.out HY.out HE.out q0)
   go_wp2_with fail
   go_quiet (fail)
   go_wp2_with fail
   go_roundw
   case rel => exact ⟨k + 1, _, by go_num, by omega, HE2, rfl⟩
   case measure => simp [intOf]; omega
  ·have k3 : ¬ (k : Int) < l.length := by omega
   have hn := HE.out
   have hL := HL.out
   rw [List.take_of_length_le (by omega), List.take_of_length_le (by omega)] at hn
   have HN2 := lhid hn
   clear hn HE hL
   go_wp2_with fail
   go_ret
   exact ⟨ret_bool (by rw [decide_eq_true HN2.out]), n, rfl⟩
end Go.Proofs.Ytbkeneadoccodaa
