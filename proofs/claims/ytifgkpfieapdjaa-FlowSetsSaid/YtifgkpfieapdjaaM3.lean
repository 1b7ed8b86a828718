/- Texts of this claim, joined: InsClone, InsUses, InsUsesW, InsUsesX, InsRef, InsRepl0. -/
import Derived.Test.YtifgkpfieapdjaaM2
import Derived.Laws.AppendOwnNone
import Derived.OwnWalk
/- slices.Clone at int, api.Row, api.Ins. -/
namespace Go.Proofs.Ytifgkpfieapdjaa
open Go.RowKit Go
set_option linter.unusedVariables false

/-- Rows of k cells, each cell a value of its own. -/
def Row1 {α : Type} (k : Nat) (E : World → α → List Value → Prop) : Prop := ∀ w a c, E w a c → c.length = k ∧ ∀ u, u ∈ c → u.oneCell' = true
theorem one_sl {α : Type} {P : Nat → Prop} {k : Nat} {E : World → α → List Value → Prop} {w : World} {v : Value} {l : List α} (h : RdX P k E w v l) : v.oneCell' = true := by
  obtain ⟨A, c, rfl⟩ := h.shape
  rfl
theorem info_parts {P : Program} {e : TypeId} {z : Value} {n b : Nat} (h : (P.info? e).map (fun i => (i.zero, i.size, i.bytes)) = some (some z, n, b)) : ∃ i, P.info? e = some i ∧ i.zero = some z ∧ i.size = n ∧ i.bytes = b := by
  cases hi : P.info? e with
  | none => rw [hi] at h; cases h
  | some i =>
    rw [hi] at h
    simp only [Option.map_some, Option.some.injEq, Prod.mk.injEq] at h
    exact ⟨i, rfl, h⟩
theorem row_nu : Row1 1 NuE := by rintro w a c rfl; simp [Value.oneCell']
theorem row_rw : Row1 4 RwE := by rintro w a c rfl; simp [Value.oneCell']
theorem row_in (P : Nat → Prop) : Row1 9 (InE P) := by
  rintro w f c ⟨a, rfl, h1⟩
  have e1 := one_sl h1
  simp [e1]
  simp [Value.oneCell']
/-- What a slice that can be read holds, as one list of cells. -/
theorem rdX_cells {α : Type} {P : Nat → Prop} {k : Nat} {E : World → α → List Value → Prop} (hk : Row1 k E) {w : World} {ad : Addr} {n cap : Nat} {l : List α} (h : RdX P k E w (.slice (some ad) n cap) l) :
    ∃ xs, RowsE k (E w) l xs ∧ (∀ (j : Nat) u, xs[j]? = some u → w.cell? (ad.add j) = some u) ∧ ∀ u, u ∈ xs → u.oneCell' = true := by
  cases l with
  | nil => exact ⟨[], rowsE_nil _ _, fun j u hj => by simp at hj, fun u hu => by simp at hu⟩
  | cons a0 r =>
    obtain ⟨g, o, c0, hA, _, hE0, _⟩ := h.at' (i := 0) (a := a0) rfl
    injection hA with hA
    subst hA
    obtain ⟨xs, h1, h2⟩ := rows_list (fun a c hc => (hk w a c hc).1) (fun j => w.cell? ⟨g, j, none⟩) (a0 :: r) o (fun i a hi => by
      obtain ⟨g', o', c, hA', _, h5, h6⟩ := h.at' hi
      injection hA' with hA'
      injection hA' with e1 e2
      subst e1
      subst e2
      exact ⟨c, h5, h6⟩)
    refine ⟨xs, h1, fun j u hj => by rw [addr_add]; exact h2 j u hj, fun u hu => ?_⟩
    obtain ⟨j, hj⟩ := List.getElem?_of_mem hu
    have hlen := (List.getElem?_eq_some_iff.1 hj).1
    have h0 := hk w a0 c0 hE0
    rw [h1.1] at hlen
    have hkpos : 0 < k := by
      rcases Nat.eq_zero_or_pos k with e | e
      · rw [e] at hlen; omega
      · exact e
    have hdiv : j / k < (a0 :: r).length := by rw [Nat.div_lt_iff_lt_mul hkpos]; exact hlen
    obtain ⟨c, h3, h4⟩ := h1.2 (j / k) _ (List.getElem?_eq_getElem hdiv)
    have hc := (hk w _ c h3)
    have hm : j % k < c.length := by rw [hc.1]; exact Nat.mod_lt _ hkpos
    have h5 := h4 (j % k) _ (List.getElem?_eq_getElem hm)
    rw [show j / k * k + j % k = j by rw [Nat.mul_comm]; exact Nat.div_add_mod j k, hj] at h5
    injection h5 with h5
    rw [h5]
    exact hc.2 _ (List.getElem_mem hm)

theorem info_nu : (Try.prog.info? 3).map (fun i => (i.zero, i.size, i.bytes)) = some (some (.int .i64 0), 1, 8) := by kernel_rfl
set_option maxHeartbeats 1000000 in
set_option maxRecDepth 100000 in
theorem clone_nu {α : Type} {P : Nat → Prop} {E : World → α → List Value → Prop} (hk : Row1 1 E) (v : Value) (l : List α) (w : World) (h : Hid (RdX P 1 E w v l)) (hby : l.length * 8 ≤ 140737488355328) :
    Calls Try.prog 71 #[v] w fun e w' => ∃ v' xs, e = .returned v' ∧ w'.ownsRow w.heap.size 3 1 v' l.length xs ∧ RowsE 1 (E w) l xs ∧ Below w.heap.size w w' := by
  obtain ⟨A, cap, rfl⟩ := h.out.shape
  have hlen := h.out.len
  obtain ⟨i0, hi, hz0, hz1, hz2⟩ := info_parts info_nu
  cases A with
  | none =>
    have hl := h.out.none0.1
    subst hl
    have hq : ∀ w', (binOp .eql 22 (.slice none 0 cap) (.slice none 0 0)).run Try.prog w' = .ok (.bool true) w' := fun w' => by kernel_rfl
    go_enter Try.func71, Try.ntmps71
    go_wp2_with fail
    go_ret
    exact ⟨_, [], rfl, World.ownsRow_nil _ _ _ _, rowsE_nil _ _, Below.refl _ _⟩
  | some ad =>
    obtain ⟨xs, HX⟩ : ∃ xs, Hid (RowsE 1 (E w) l xs ∧ (∀ (j : Nat) u, xs[j]? = some u → w.cell? (ad.add j) = some u) ∧ ∀ u, u ∈ xs → u.oneCell' = true) := by
      obtain ⟨xs, hx⟩ := rdX_cells hk h.out
      exact ⟨xs, lhid hx⟩
    have hq : ∀ w', (binOp .eql 22 (.slice (some ad) l.length cap) (.slice none 0 0)).run Try.prog w' = .ok (.bool false) w' := fun w' => by kernel_rfl
    go_enter Try.func71, Try.ntmps71
    go_wp2_with (at_builtin; refine wpList_append_own _ rfl (.tmp 5) (.tmp 6) 22 rfl w.heap.size 3 i0 (.int .i64 0) 1 8 Try.underlying22 hi hz0 hz1 hz2 rfl (by decide) (.slice (some ⟨w.heap.size, 0, none⟩) 0 0) 0 [] rfl (World.ownsRow_lit _ #[] 0 (Nat.le_refl _) (Nat.zero_le _) (by simp)) ad l.length cap xs rfl HX.out.1.1 ?a2 HX.out.2.2 ?a4 ?a5 ?a6 ?_)
    case a2 =>
      intro j u hj
      have h1 := HX.out.2.1 j u hj
      rw [Go.RowKit.Below.cell ((Below.refl w.heap.size w).alloc (Nat.le_refl _) _) (cell_lt h1)]
      exact h1
    case a4 => unfold maxLen; omega
    case a5 => omega
    case a6 => simp
    intro v' w' hown hgrow hnil
    go_wp2_with fail
    go_ret
    refine ⟨v', xs, rfl, ?_, HX.out.1, ?_⟩
    · exact hown
    · exact Below.grown ((Below.refl _ _).alloc (Nat.le_refl _) _) hgrow (by simp) (by rintro k e; injection e with e; rw [← e]; exact Nat.le_refl _)

theorem info_rw : (Try.prog.info? 54).map (fun i => (i.zero, i.size, i.bytes)) = some (some (.agg #[.int .i64 0, .int .i64 0, .int .i64 0, .string ⟨#[]⟩]), 4, 40) := by kernel_rfl
set_option maxHeartbeats 1000000 in
set_option maxRecDepth 100000 in
theorem clone_rw {α : Type} {P : Nat → Prop} {E : World → α → List Value → Prop} (hk : Row1 4 E) (v : Value) (l : List α) (w : World) (h : Hid (RdX P 4 E w v l)) (hby : l.length * 40 ≤ 140737488355328) :
    Calls Try.prog 72 #[v] w fun e w' => ∃ v' xs, e = .returned v' ∧ w'.ownsRow w.heap.size 54 4 v' l.length xs ∧ RowsE 4 (E w) l xs ∧ Below w.heap.size w w' := by
  obtain ⟨A, cap, rfl⟩ := h.out.shape
  have hlen := h.out.len
  obtain ⟨i0, hi, hz0, hz1, hz2⟩ := info_parts info_rw
  cases A with
  | none =>
    have hl := h.out.none0.1
    subst hl
    have hq : ∀ w', (binOp .eql 24 (.slice none 0 cap) (.slice none 0 0)).run Try.prog w' = .ok (.bool true) w' := fun w' => by kernel_rfl
    go_enter Try.func72, Try.ntmps72
    go_wp2_with fail
    go_ret
    exact ⟨_, [], rfl, World.ownsRow_nil _ _ _ _, rowsE_nil _ _, Below.refl _ _⟩
  | some ad =>
    obtain ⟨xs, HX⟩ : ∃ xs, Hid (RowsE 4 (E w) l xs ∧ (∀ (j : Nat) u, xs[j]? = some u → w.cell? (ad.add j) = some u) ∧ ∀ u, u ∈ xs → u.oneCell' = true) := by
      obtain ⟨xs, hx⟩ := rdX_cells hk h.out
      exact ⟨xs, lhid hx⟩
    have hq : ∀ w', (binOp .eql 24 (.slice (some ad) l.length cap) (.slice none 0 0)).run Try.prog w' = .ok (.bool false) w' := fun w' => by kernel_rfl
    go_enter Try.func72, Try.ntmps72
    go_wp2_with (at_builtin; refine wpList_append_own _ rfl (.tmp 5) (.tmp 6) 24 rfl w.heap.size 54 i0 (.agg #[.int .i64 0, .int .i64 0, .int .i64 0, .string ⟨#[]⟩]) 4 40 Try.underlying24 hi hz0 hz1 hz2 rfl (by decide) (.slice (some ⟨w.heap.size, 0, none⟩) 0 0) 0 [] rfl (World.ownsRow_lit _ #[] 0 (Nat.le_refl _) (Nat.zero_le _) (by simp)) ad l.length cap xs rfl HX.out.1.1 ?a2 HX.out.2.2 ?a4 ?a5 ?a6 ?_)
    case a2 =>
      intro j u hj
      have h1 := HX.out.2.1 j u hj
      rw [Go.RowKit.Below.cell ((Below.refl w.heap.size w).alloc (Nat.le_refl _) _) (cell_lt h1)]
      exact h1
    case a4 => unfold maxLen; omega
    case a5 => omega
    case a6 => simp
    intro v' w' hown hgrow hnil
    go_wp2_with fail
    go_ret
    refine ⟨v', xs, rfl, ?_, HX.out.1, ?_⟩
    · exact hown
    · exact Below.grown ((Below.refl _ _).alloc (Nat.le_refl _) _) hgrow (by simp) (by rintro k e; injection e with e; rw [← e]; exact Nat.le_refl _)

theorem info_in : (Try.prog.info? 37).map (fun i => (i.zero, i.size, i.bytes)) = some (some (.agg #[.int .i64 0, .int .i64 0, .int .i64 0, .int .i64 0, .int .i64 0, .int .i64 0, .int .i64 0, .string ⟨#[]⟩, .slice none 0 0]), 9, 96) := by kernel_rfl
set_option maxHeartbeats 1000000 in
set_option maxRecDepth 100000 in
theorem clone_in {α : Type} {P : Nat → Prop} {E : World → α → List Value → Prop} (hk : Row1 9 E) (v : Value) (l : List α) (w : World) (h : Hid (RdX P 9 E w v l)) (hby : l.length * 96 ≤ 140737488355328) :
    Calls Try.prog 73 #[v] w fun e w' => ∃ v' xs, e = .returned v' ∧ w'.ownsRow w.heap.size 37 9 v' l.length xs ∧ RowsE 9 (E w) l xs ∧ Below w.heap.size w w' := by
  obtain ⟨A, cap, rfl⟩ := h.out.shape
  have hlen := h.out.len
  obtain ⟨i0, hi, hz0, hz1, hz2⟩ := info_parts info_in
  cases A with
  | none =>
    have hl := h.out.none0.1
    subst hl
    have hq : ∀ w', (binOp .eql 23 (.slice none 0 cap) (.slice none 0 0)).run Try.prog w' = .ok (.bool true) w' := fun w' => by kernel_rfl
    go_enter Try.func73, Try.ntmps73
    go_wp2_with fail
    go_ret
    exact ⟨_, [], rfl, World.ownsRow_nil _ _ _ _, rowsE_nil _ _, Below.refl _ _⟩
  | some ad =>
    obtain ⟨xs, HX⟩ : ∃ xs, Hid (RowsE 9 (E w) l xs ∧ (∀ (j : Nat) u, xs[j]? = some u → w.cell? (ad.add j) = some u) ∧ ∀ u, u ∈ xs → u.oneCell' = true) := by
      obtain ⟨xs, hx⟩ := rdX_cells hk h.out
      exact ⟨xs, lhid hx⟩
    have hq : ∀ w', (binOp .eql 23 (.slice (some ad) l.length cap) (.slice none 0 0)).run Try.prog w' = .ok (.bool false) w' := fun w' => by kernel_rfl
    go_enter Try.func73, Try.ntmps73
    go_wp2_with (at_builtin; refine wpList_append_own _ rfl (.tmp 5) (.tmp 6) 23 rfl w.heap.size 37 i0 (.agg #[.int .i64 0, .int .i64 0, .int .i64 0, .int .i64 0, .int .i64 0, .int .i64 0, .int .i64 0, .string ⟨#[]⟩, .slice none 0 0]) 9 96 Try.underlying23 hi hz0 hz1 hz2 rfl (by decide) (.slice (some ⟨w.heap.size, 0, none⟩) 0 0) 0 [] rfl (World.ownsRow_lit _ #[] 0 (Nat.le_refl _) (Nat.zero_le _) (by simp)) ad l.length cap xs rfl HX.out.1.1 ?a2 HX.out.2.2 ?a4 ?a5 ?a6 ?_)
    case a2 =>
      intro j u hj
      have h1 := HX.out.2.1 j u hj
      rw [Go.RowKit.Below.cell ((Below.refl w.heap.size w).alloc (Nat.le_refl _) _) (cell_lt h1)]
      exact h1
    case a4 => unfold maxLen; omega
    case a5 => omega
    case a6 => simp
    intro v' w' hown hgrow hnil
    go_wp2_with fail
    go_ret
    refine ⟨v', xs, rfl, ?_, HX.out.1, ?_⟩
    · exact hown
    · exact Below.grown ((Below.refl _ _).alloc (Nat.le_refl _) _) hgrow (by simp) (by rintro k e; injection e with e; rw [← e]; exact Nat.le_refl _)
end Go.Proofs.Ytifgkpfieapdjaa
/- Contracts of Throws, Def, Uses, the program's. -/
namespace Go.Proofs.Ytifgkpfieapdjaa
open Go.RowKit Go
set_option linter.unusedVariables false
set_option linter.unusedSimpArgs false

abbrev inL (c d a b k n t : Int) (r : Bs) (v : Value) : Value := .agg #[.int .i64 c, .int .i64 d, .int .i64 a, .int .i64 b, .int .i64 k, .int .i64 n, .int .i64 t, .string (tx r), v]
theorem field_w (f0 f1 f2 f3 : Int) : ∀ w', (Instr.field 99 (.agg #[.int .u64 f0, .int .u64 f1, .int .u64 f2, .int .u64 f3]) 0).run Try.prog w' = .ok (.int .u64 f0) w' := fun w' => by kernel_rfl
theorem field_r (f0 f1 f2 f3 : Int) : ∀ w', (Instr.field 99 (.agg #[.int .u64 f0, .int .u64 f1, .int .u64 f2, .int .u64 f3]) 1).run Try.prog w' = .ok (.agg #[.int .u64 f1, .int .u64 f2, .int .u64 f3]) w' := fun w' => by kernel_rfl
theorem throws_calls (c : Int) : ¬ c = 7 → ¬ c = 8 → ¬ c = 9 → ¬ c = 10 → ¬ c = 11 → ¬ c = 12 → ¬ c = 20 → ¬ c = 21 → ¬ c = 31 → callsB c = throwsB c := by
  intros
  unfold callsB throwsB
  simp [*]
set_option maxHeartbeats 8000000 in
set_option maxRecDepth 100000 in
theorem throws_any (x : InI) (v : Value) (w : World) :
    Calls Try.prog 87 #[inA x v] w fun e w' => e = .returned (.bool (throwsB x.op)) ∧ Below w.heap.size w w' := by
  obtain ⟨c, d, a, b, k, n, t, r, l⟩ := x
  have HX : ∀ w, Hid (Calls Try.prog 95 #[inL c d a b k n t r v] w fun e w' => e = .returned (.bool (callsB c)) ∧ Below w.heap.size w w') := fun w => lhid (calls_any ⟨c, d, a, b, k, n, t, r, l⟩ v w)
  show Calls Try.prog 87 #[inL c d a b k n t r v] w fun e w' => e = .returned (.bool (throwsB c)) ∧ Below w.heap.size w w'
  go_enter Try.func87, Try.ntmps87
  go_wp2_with (with_reducible refine (HX _).out.mono ?_; rintro e w1 ⟨rfl, hb⟩)
  all_goals go_ret
  all_goals
    refine ⟨?_, by first | exact (Below.refl w.heap.size w).alloc (Nat.le_refl _) _ | (rename Below _ _ _ => hb; exact ((Below.refl w.heap.size w).alloc (Nat.le_refl _) _).trans (hb.mono (by simp)))⟩
    first
      | (rename_i h; obtain rfl := eq_of_beq h; rfl)
      | (simp only [beq_eq_false_iff_ne, ne_eq] at *
         exact ret_val (by rw [← throws_calls c (by assumption) (by assumption) (by assumption) (by assumption) (by assumption) (by assumption) (by assumption) (by assumption) (by assumption)]; rfl))
set_option maxHeartbeats 8000000 in
set_option maxRecDepth 100000 in
theorem def_any (x : InI) (v : Value) (w : World) :
    Calls Try.prog 55 #[inA x v] w fun e w' => e = .returned (.int .i64 (defI x)) ∧ Below w.heap.size w w' := by
  obtain ⟨c, d, a, b, k, n, t, r, l⟩ := x
  have HF : ∀ w, Hid (Calls Try.prog 86 #[.int .i64 c] w fun e w' => e = .returned (fdV c) ∧ Below w.heap.size w w') := fun w => lhid (fieldsOf_any c w)
  have hd := wrB_fd c
  show Calls Try.prog 55 #[inL c d a b k n t r v] w fun e w' => e = .returned (.int .i64 (if wrB c then d else -1)) ∧ Below w.heap.size w w'
  unfold fdV at HF
  generalize wrB c = z at *
  generalize (fdT c).1 = f0 at *
  generalize (fdT c).2.1 = f1 at *
  generalize (fdT c).2.2.1 = f2 at *
  generalize (fdT c).2.2.2 = f3 at *
  have hz : (f0 == 0) = !z := by rw [hd]; simp
  clear hd
  cases z
  all_goals
    simp only [Bool.not_true, Bool.not_false] at hz
    have hq := field_w f0 f1 f2 f3
    go_enter Try.func55, Try.ntmps55
    go_wp2_with fail
    with_reducible refine (HF _).out.mono ?_
    rintro e w1 ⟨rfl, hb⟩
    have c1 : w1.cell? ⟨w.heap.size, 1, none⟩ = some (.int .i64 d) := (hb.cell (p := ⟨w.heap.size, 1, none⟩) (by simp)).trans (heap_cell (heap_alloc_new w _) rfl)
    have HB := lhid (((Below.refl w.heap.size w).alloc (Nat.le_refl _) _).trans (hb.mono (by simp)))
    clear hb
    go_wp2_with fail
    go_ret
    exact ⟨rfl, HB.out⟩
end Go.Proofs.Ytifgkpfieapdjaa
/- Contract of Uses, the program's. -/
namespace Go.Proofs.Ytifgkpfieapdjaa
open Go.RowKit Go
set_option linter.unusedVariables false
set_option linter.unusedSimpArgs false

/-- Is it among the sets that the table has? -/
def setsL : List Int := [0, 2, 6, 8, 9, 14, 15]
theorem fd_sets (c : Int) : (fdT c).2.1 ∈ setsL ∧ (fdT c).2.2.1 ∈ setsL ∧ (fdT c).2.2.2 ∈ setsL ∧ (fdT c).1 ∈ setsL := by
  refine all_ops (Q := fun c => (fdT c).2.1 ∈ setsL ∧ (fdT c).2.2.1 ∈ setsL ∧ (fdT c).2.2.2 ∈ setsL ∧ (fdT c).1 ∈ setsL) (by decide +kernel) (fun c hc => by rw [(out_of c hc).2.2.2.2.2.2.2.1]; decide) c
def hasB (f kd : Int) : Bool := f.toNat / 2 ^ kd.toNat % 2 == 1
set_option maxHeartbeats 8000000 in
set_option maxRecDepth 100000 in
theorem has_any (f kd : Int) (hf : f ∈ setsL) (hk : kd = 0 ∨ kd = 1 ∨ kd = 2 ∨ kd = 3) (w : World) :
    Calls Try.prog 96 #[.int .u64 f, .int .i64 kd] w fun e w' => e = .returned (.bool (hasB f kd)) ∧ w = w' := by
  unfold setsL at hf
  simp only [List.mem_cons, List.not_mem_nil, or_false] at hf
  rcases hf with rfl | rfl | rfl | rfl | rfl | rfl | rfl <;> rcases hk with rfl | rfl | rfl | rfl
  all_goals
    go_enter Try.func96, Try.ntmps96
    go_wp2
    go_ret
    exact ⟨by with_unfolding_all rfl, rfl⟩
/-- Is a field told? -/
def tkB (f r : Int) : Bool := !(f == 0) && !(decide (r < 0) && hasB f 0)
def us1 (f r : Int) : List Int := if tkB f r then [r] else []
theorem uses_us (x : InI) (h : callsB x.op = false) : usesI x = us1 (fdT x.op).2.1 x.a ++ us1 (fdT x.op).2.2.1 x.b ++ us1 (fdT x.op).2.2.2 x.c := by
  obtain ⟨c, d, a, b, k, n, t, r, l⟩ := x
  revert h
  show callsB c = false → usesI ⟨c, d, a, b, k, n, t, r, l⟩ = us1 (fdT c).2.1 a ++ us1 (fdT c).2.2.1 b ++ us1 (fdT c).2.2.2 k
  have key : ∀ c : Int, callsB c = false → (rk c = 0 ∧ (fdT c).2 = (0, 0, 0)) ∨ (rk c = 1 ∧ (fdT c).2.1 ≠ 0 ∧ hasB (fdT c).2.1 0 = false ∧ (fdT c).2.2 = (0, 0)) ∨ (rk c = 2 ∧ (fdT c).2.1 ≠ 0 ∧ hasB (fdT c).2.1 0 = false ∧ (fdT c).2.2.1 ≠ 0 ∧ hasB (fdT c).2.2.1 0 = false ∧ (fdT c).2.2.2 = 0) ∨ (rk c = 3 ∧ (fdT c).2 = (8, 2, 14)) ∨ (rk c = 4 ∧ (fdT c).2 = (8, 9, 0)) ∨ (rk c = 5 ∧ (fdT c).2 = (15, 0, 0)) := by
    refine all_ops (Q := fun c => callsB c = false → (rk c = 0 ∧ (fdT c).2 = (0, 0, 0)) ∨ (rk c = 1 ∧ (fdT c).2.1 ≠ 0 ∧ hasB (fdT c).2.1 0 = false ∧ (fdT c).2.2 = (0, 0)) ∨ (rk c = 2 ∧ (fdT c).2.1 ≠ 0 ∧ hasB (fdT c).2.1 0 = false ∧ (fdT c).2.2.1 ≠ 0 ∧ hasB (fdT c).2.2.1 0 = false ∧ (fdT c).2.2.2 = 0) ∨ (rk c = 3 ∧ (fdT c).2 = (8, 2, 14)) ∨ (rk c = 4 ∧ (fdT c).2 = (8, 9, 0)) ∨ (rk c = 5 ∧ (fdT c).2 = (15, 0, 0))) (by decide +kernel) (fun c hc _ => .inl ?_)
    exact ⟨(out_of c hc).1, by rw [(out_of c hc).2.2.2.2.2.2.2.1]⟩
  intro h
  rcases key c h with ⟨h1, h2⟩ | ⟨h1, h2, h3, h4⟩ | ⟨h1, h2, h3, h4, h5, h6⟩ | ⟨h1, h2⟩ | ⟨h1, h2⟩ | ⟨h1, h2⟩
  · simp [usesI, h1, h2, us1, tkB]
  · simp [usesI, h1, h2, h3, h4, us1, tkB]
  · simp [usesI, h1, h2, h3, h4, h5, h6, us1, tkB]
  · simp [usesI, h1, h2, us1, tkB, hasB]
  · simp only [usesI, h1, h2, us1, tkB, hasB]
    by_cases hb : 0 ≤ b
    · simp [hb, show ¬ b < 0 by omega]
    · simp [hb, show b < 0 by omega]
  · simp only [usesI, h1, h2, us1, tkB, hasB]
    by_cases hb : 0 ≤ a
    · simp [hb, show ¬ a < 0 by omega]
    · simp [hb, show a < 0 by omega]
end Go.Proofs.Ytifgkpfieapdjaa
/- Contract of Uses, the program's: the walk. -/
namespace Go.Proofs.Ytifgkpfieapdjaa
open Go.RowKit Go
set_option linter.unusedVariables false
set_option linter.unusedSimpArgs false

abbrev vI (z : Int) : Value := .int .i64 z
/-- A list of numbers that a call made. -/
abbrev OwN (w : World) (B : Nat) (v : Value) (l : List Int) : Prop := w.ownsRow B 3 1 v l.length (l.map vI)
theorem rowsE_nu {w : World} {l : List Int} {xs : List Value} (h : RowsE 1 (NuE w) l xs) : xs = l.map vI := by
  apply List.ext_getElem?
  intro i
  rw [List.getElem?_map]
  cases hi : l[i]? with
  | none =>
    have h1 := List.getElem?_eq_none_iff.1 hi
    rw [List.getElem?_eq_none_iff.2 (by rw [h.1]; omega)]
    rfl
  | some z =>
    obtain ⟨c, h2, h3⟩ := h.2 i z hi
    rw [h2] at h3
    have := h3 0 (vI z) rfl
    rw [Nat.mul_one, Nat.add_zero] at this
    rw [this]
    rfl
theorem nu_rowsE (w : World) (l : List Int) : RowsE 1 (NuE w) l (l.map vI) := by
  refine ⟨by simp, fun i a hi => ⟨[vI a], rfl, fun j u hj => ?_⟩⟩
  cases j with
  | succ j => simp at hj
  | zero =>
    simp at hj
    subst hj
    rw [Nat.mul_one, Nat.add_zero, List.getElem?_map, hi]
    rfl
theorem OwN.rd {w : World} {B : Nat} {v : Value} {l : List Int} (h : OwN w B v l) (hl : l.length ≤ 140737488355328) : RdX (fun g => B ≤ g ∧ v.ownBlock = some g) 1 NuE w v l := rdX_own h hl (nu_rowsE w l)
theorem info_nuP : (Try.prog.info? 3).map (fun i => (i.zero, i.size, i.bytes)) = some (some (.int .i64 0), 1, 8) := by kernel_rfl
theorem idx3 (a b k : Int) : (∀ w', (Instr.index 109 (.agg #[vI a, vI b, vI k]) (vI 0)).run Try.prog w' = .ok (vI a) w') ∧ (∀ w', (Instr.index 109 (.agg #[vI a, vI b, vI k]) (vI 1)).run Try.prog w' = .ok (vI b) w') ∧ (∀ w', (Instr.index 109 (.agg #[vI a, vI b, vI k]) (vI 2)).run Try.prog w' = .ok (vI k) w') :=
  ⟨fun w' => by kernel_rfl, fun w' => by kernel_rfl, fun w' => by kernel_rfl⟩
theorem tk_ways (f r : Int) : (us1 f r = [] ∧ (f == 0) = true) ∨ (us1 f r = [r] ∧ ¬ f = 0 ∧ ¬ r < 0) ∨ (us1 f r = [] ∧ ¬ f = 0 ∧ r < 0 ∧ hasB f 0 = true) ∨ (us1 f r = [r] ∧ ¬ f = 0 ∧ r < 0 ∧ hasB f 0 = false) := by
  unfold us1 tkB
  by_cases h0 : f = 0
  · exact .inl (by simp [h0])
  · by_cases h1 : r < 0
    · cases h2 : hasB f 0
      · exact .inr (.inr (.inr (by simp [h0, h1])))
      · exact .inr (.inr (.inl (by simp [h0, h1])))
    · exact .inr (.inl (by simp [h0, h1]))
/-- What is told of the first j fields. -/
def usU (f1 f2 f3 a b k : Int) (j : Nat) : List Int := (if 0 < j then us1 f1 a else []) ++ (if 1 < j then us1 f2 b else []) ++ (if 2 < j then us1 f3 k else [])
set_option maxHeartbeats 8000000 in
set_option maxRecDepth 100000 in
theorem uses_any {P : Nat → Prop} (x : InI) (v : Value) (w : World) (h : Hid (RdX P 1 NuE w v x.args)) (hby : Hid (x.args.length * 8 ≤ 140737488355328)) :
    Calls Try.prog 70 #[inA x v] w fun e w' => ∃ v', e = .returned v' ∧ OwN w' w.heap.size v' (usesI x) ∧ Below w.heap.size w w' := by
  have hus := uses_us x
  have huc : callsB x.op = true → usesI x = x.args := by
    intro hc
    unfold callsB at hc
    rw [decide_eq_true_eq] at hc
    have : rk x.op = 6 := by
      simp only [List.mem_cons, List.not_mem_nil, or_false] at hc
      rcases hc with e | e | e | e <;> rw [e] <;> decide
    unfold usesI
    rw [this]
    rfl
  have hfs := fd_sets x.op
  have HCa : ∀ w, Hid (Calls Try.prog 95 #[inA x v] w fun e w' => e = .returned (.bool (callsB x.op)) ∧ Below w.heap.size w w') := fun w => lhid (calls_any x v w)
  have HF : ∀ w, Hid (Calls Try.prog 86 #[.int .i64 x.op] w fun e w' => e = .returned (fdV x.op) ∧ Below w.heap.size w w') := fun w => lhid (fieldsOf_any x.op w)
  unfold fdV at HF
  generalize usesI x = U at *
  generalize callsB x.op = z at *
  generalize (fdT x.op).1 = f0 at *
  generalize (fdT x.op).2.1 = f1 at *
  generalize (fdT x.op).2.2.1 = f2 at *
  generalize (fdT x.op).2.2.2 = f3 at *
  obtain ⟨c, d, a, b, k, n, t, r, l⟩ := x
  dsimp only [inA] at *
  cases z
  · have HU := lhid (hus rfl)
    have HFS := lhid hfs
    clear hus huc hfs
    have hq := field_r f0 f1 f2 f3
    obtain ⟨x0, x1, x2⟩ := idx3 a b k
    obtain ⟨i0, hi0, hz0, hz1, hz2⟩ := info_parts info_nuP
    go_enter Try.func70, Try.ntmps70
    go_wp2_with fail
    with_reducible refine (HCa _).out.mono ?_
    rintro e w1 ⟨rfl, hb⟩
    have h0 := (hb.block w.heap.size (by simp)).trans (heap_alloc_new w _)
    have c0 : w1.cell? ⟨w.heap.size, 0, none⟩ = some (vI c) := heap_cell h0 rfl
    have H0 := lhid h0
    have HB1 := lhid (((Below.refl w.heap.size w).alloc (Nat.le_refl _) _).trans (hb.mono (by simp)))
    have HS1 := lhid (show w.heap.size + 1 ≤ w1.heap.size by have := hb.size; simpa using this)
    clear hb h0
    go_wp2_with fail
    with_reducible refine (HF _).out.mono ?_
    rintro e w2 ⟨rfl, hb⟩
    have h0 := (hb.block w.heap.size (by have := HS1.out; omega)).trans H0.out
    have c2 : w2.cell? ⟨w.heap.size, 2, none⟩ = some (vI a) := heap_cell h0 rfl
    have c3 : w2.cell? ⟨w.heap.size, 3, none⟩ = some (vI b) := heap_cell h0 rfl
    have c4 : w2.cell? ⟨w.heap.size, 4, none⟩ = some (vI k) := heap_cell h0 rfl
    have HB2 := lhid (HB1.out.trans (hb.mono HB1.out.size))
    have hs2 : w.heap.size < w2.heap.size := by have := HS1.out; have := hb.size; omega
    have n2 : ¬ w.heap.size = w2.heap.size := by omega
    have n2' : ¬ w2.heap.size = w.heap.size := by omega
    clear hb h0
    go_wp2_with fail
    have HU0 := lhid (show usU f1 f2 f3 a b k 3 = U from by rw [HU.out]; simp [usU])
    have HW3 := lhid (Below.refl w2.heap.size w2)
    go_loopw [3, 23] (fun v i wr => ∃ (D : List Int) (A : Option Addr) (q j : Nat), v = .slice A D.length q ∧ i = .int .i64 j ∧ j ≤ 3 ∧ Hid (D = usU f1 f2 f3 a b k j) ∧ Hid (OwN wr (w2.heap.size + 1) (.slice A D.length q) D) ∧ Hid (wr.heap[w2.heap.size]? = some (.cells #[.int .u64 f1, .int .u64 f2, .int .u64 f3] 97 (0, 0))) ∧ Hid (Below w.heap.size w wr)) (fun _ i _ => 3 - (intOf i).toNat)
    case atStart => exact ⟨[], none, 0, 0, rfl, rfl, by omega, lhid (by simp [usU]), lhid (World.ownsRow_nil _ _ _ _), lhid (heap_alloc_new _ _), lhid (HB2.out.alloc HB2.out.size _)⟩
    case round =>
      obtain ⟨D, A, q, j, rfl, rfl, hj, HD, HO, HC, HB⟩ := hrel
      have r0 : wr.cell? ⟨w2.heap.size, 0, none⟩ = some (.int .u64 f1) := heap_cell HC.out rfl
      have r1 : wr.cell? ⟨w2.heap.size, 1, none⟩ = some (.int .u64 f2) := heap_cell HC.out rfl
      have r2 : wr.cell? ⟨w2.heap.size, 2, none⟩ = some (.int .u64 f3) := heap_cell HC.out rfl
      have hDl : D.length ≤ 3 := by
        rw [HD.out]
        simp only [usU, us1]
        repeat' split
        all_goals simp
      have hRlt : w2.heap.size < wr.heap.size := heap_lt HC.out
      have hj4 : j = 0 ∨ j = 1 ∨ j = 2 ∨ j = 3 := by omega
      have hfs := HFS.out
      rcases hj4 with rfl | rfl | rfl | rfl
      · have HH := has_any f1 0 hfs.1 (.inl rfl)
        have HHH := lhid HH
        clear HH hfs
        rcases tk_ways f1 a with ⟨HT, t0⟩ | ⟨HT, t0, t1⟩ | ⟨HT, t0, t1, t2⟩ | ⟨HT, t0, t1, t2⟩
        all_goals
          have hD2 := HD.out
          have HDT := lhid HT
          clear HT
        · have HD2 : Hid (D = usU f1 f2 f3 a b k 1) := lhid (by rw [HD.out]; simp [usU, HDT.out])
          clear hD2
          obtain rfl := eq_of_beq t0
          clear t0
          go_wp2_with fail
          go_roundw
          case rel => exact ⟨D, A, q, 1, rfl, rfl, by omega, HD2, HO, HC, HB⟩
          case measure => simp [intOf]
        · have HD2 : Hid (D ++ [a] = usU f1 f2 f3 a b k 1) := lhid (by rw [HD.out]; simp [usU, HDT.out])
          clear hD2
          go_wp2_with (at_builtin; refine wpList_append_own _ rfl (.tmp 42) (.tmp 44) 22 rfl (w2.heap.size + 1) 3 i0 (.int .i64 0) 1 8 Try.underlying22 hi0 hz0 hz1 hz2 rfl (by decide) (.slice A D.length q) D.length (D.map vI) rfl (HO.out.alloc _) ⟨wr.heap.size, 0, none⟩ 1 1 [vI a] rfl rfl ?g0c1 ?g0c2 ?g0c3 ?g0c4 ?g0c5 ?_)
          try case g0c1 => exact new_cells _ _ _
          case g0c2 => first | rfl | (intro u hu; simp at hu; subst hu; rfl)
          case g0c3 => unfold maxLen; omega
          case g0c4 => omega
          case g0c5 => first | omega | (simp; omega)
          intro v' w' hown hgrow hnil
          have hsh := own_shape hown
          obtain ⟨A', q', rfl⟩ := hsh
          have HO2 : Hid (OwN w' (w2.heap.size + 1) (.slice A' (D ++ [a]).length q') (D ++ [a])) := lhid (by simpa [OwN] using hown)
          have HC2 : Hid (w'.heap[w2.heap.size]? = some (.cells #[.int .u64 f1, .int .u64 f2, .int .u64 f3] 97 (0, 0))) := lhid ((hgrow.block w2.heap.size (by simp; omega) (fun e => by have := own_lt HO.out w2.heap.size (by first | exact e.symm | exact e); omega)).trans ((Below.heap_alloc _ _ _ hRlt).trans HC.out))
          have HB3 := lhid (Below.grown (HB.out.alloc HB.out.size _) hgrow (by simp; have := HB.out.size; omega) (fun k e => by have := own_lt HO.out k e; omega))
          obtain ⟨E, hE⟩ : ∃ E, D ++ [a] = E := ⟨_, rfl⟩
          have hEl : D.length + 1 = E.length := by rw [← hE]; simp
          rw [hE] at HO2 HD2
          clear hown hgrow hnil hE
          go_wp2_with fail
          go_roundw
          case rel => exact ⟨E, A', q', 1, by rw [hEl], rfl, by omega, HD2, HO2, HC2, HB3⟩
          case measure => simp [intOf]
        · have HD2 : Hid (D = usU f1 f2 f3 a b k 1) := lhid (by rw [HD.out]; simp [usU, HDT.out])
          clear hD2
          rw [t2] at HHH
          go_wp2_with fail
          with_reducible refine (HHH.out _).mono ?_
          rintro e w3 ⟨rfl, rfl⟩
          go_wp2_with fail
          go_roundw
          case rel => exact ⟨D, A, q, 1, rfl, rfl, by omega, HD2, HO, HC, HB⟩
          case measure => simp [intOf]
        · rw [t2] at HHH
          have HD2 : Hid (D ++ [a] = usU f1 f2 f3 a b k 1) := lhid (by rw [HD.out]; simp [usU, HDT.out])
          clear hD2
          go_wp2_with fail
          with_reducible refine (HHH.out _).mono ?_
          rintro e w3 ⟨rfl, rfl⟩
          go_wp2_with (at_builtin; refine wpList_append_own _ rfl (.tmp 42) (.tmp 44) 22 rfl (w2.heap.size + 1) 3 i0 (.int .i64 0) 1 8 Try.underlying22 hi0 hz0 hz1 hz2 rfl (by decide) (.slice A D.length q) D.length (D.map vI) rfl (HO.out.alloc _) ⟨wr.heap.size, 0, none⟩ 1 1 [vI a] rfl rfl ?g1c1 ?g1c2 ?g1c3 ?g1c4 ?g1c5 ?_)
          try case g1c1 => exact new_cells _ _ _
          case g1c2 => first | rfl | (intro u hu; simp at hu; subst hu; rfl)
          case g1c3 => unfold maxLen; omega
          case g1c4 => omega
          case g1c5 => first | omega | (simp; omega)
          intro v' w' hown hgrow hnil
          have hsh := own_shape hown
          obtain ⟨A', q', rfl⟩ := hsh
          have HO2 : Hid (OwN w' (w2.heap.size + 1) (.slice A' (D ++ [a]).length q') (D ++ [a])) := lhid (by simpa [OwN] using hown)
          have HC2 : Hid (w'.heap[w2.heap.size]? = some (.cells #[.int .u64 f1, .int .u64 f2, .int .u64 f3] 97 (0, 0))) := lhid ((hgrow.block w2.heap.size (by simp; omega) (fun e => by have := own_lt HO.out w2.heap.size (by first | exact e.symm | exact e); omega)).trans ((Below.heap_alloc _ _ _ hRlt).trans HC.out))
          have HB3 := lhid (Below.grown (HB.out.alloc HB.out.size _) hgrow (by simp; have := HB.out.size; omega) (fun k e => by have := own_lt HO.out k e; omega))
          obtain ⟨E, hE⟩ : ∃ E, D ++ [a] = E := ⟨_, rfl⟩
          have hEl : D.length + 1 = E.length := by rw [← hE]; simp
          rw [hE] at HO2 HD2
          clear hown hgrow hnil hE
          go_wp2_with fail
          go_roundw
          case rel => exact ⟨E, A', q', 1, by rw [hEl], rfl, by omega, HD2, HO2, HC2, HB3⟩
          case measure => simp [intOf]
      · have HH := has_any f2 0 hfs.2.1 (.inl rfl)
        have HHH := lhid HH
        clear HH hfs
        rcases tk_ways f2 b with ⟨HT, t0⟩ | ⟨HT, t0, t1⟩ | ⟨HT, t0, t1, t2⟩ | ⟨HT, t0, t1, t2⟩
        all_goals
          have hD2 := HD.out
          have HDT := lhid HT
          clear HT
        · have HD2 : Hid (D = usU f1 f2 f3 a b k 2) := lhid (by rw [HD.out]; simp [usU, HDT.out])
          clear hD2
          obtain rfl := eq_of_beq t0
          clear t0
          go_wp2_with fail
          go_roundw
          case rel => exact ⟨D, A, q, 2, rfl, rfl, by omega, HD2, HO, HC, HB⟩
          case measure => simp [intOf]
        · have HD2 : Hid (D ++ [b] = usU f1 f2 f3 a b k 2) := lhid (by rw [HD.out]; simp [usU, HDT.out])
          clear hD2
          go_wp2_with (at_builtin; refine wpList_append_own _ rfl (.tmp 42) (.tmp 44) 22 rfl (w2.heap.size + 1) 3 i0 (.int .i64 0) 1 8 Try.underlying22 hi0 hz0 hz1 hz2 rfl (by decide) (.slice A D.length q) D.length (D.map vI) rfl (HO.out.alloc _) ⟨wr.heap.size, 0, none⟩ 1 1 [vI b] rfl rfl ?g2c1 ?g2c2 ?g2c3 ?g2c4 ?g2c5 ?_)
          try case g2c1 => exact new_cells _ _ _
          case g2c2 => first | rfl | (intro u hu; simp at hu; subst hu; rfl)
          case g2c3 => unfold maxLen; omega
          case g2c4 => omega
          case g2c5 => first | omega | (simp; omega)
          intro v' w' hown hgrow hnil
          have hsh := own_shape hown
          obtain ⟨A', q', rfl⟩ := hsh
          have HO2 : Hid (OwN w' (w2.heap.size + 1) (.slice A' (D ++ [b]).length q') (D ++ [b])) := lhid (by simpa [OwN] using hown)
          have HC2 : Hid (w'.heap[w2.heap.size]? = some (.cells #[.int .u64 f1, .int .u64 f2, .int .u64 f3] 97 (0, 0))) := lhid ((hgrow.block w2.heap.size (by simp; omega) (fun e => by have := own_lt HO.out w2.heap.size (by first | exact e.symm | exact e); omega)).trans ((Below.heap_alloc _ _ _ hRlt).trans HC.out))
          have HB3 := lhid (Below.grown (HB.out.alloc HB.out.size _) hgrow (by simp; have := HB.out.size; omega) (fun k e => by have := own_lt HO.out k e; omega))
          obtain ⟨E, hE⟩ : ∃ E, D ++ [b] = E := ⟨_, rfl⟩
          have hEl : D.length + 1 = E.length := by rw [← hE]; simp
          rw [hE] at HO2 HD2
          clear hown hgrow hnil hE
          go_wp2_with fail
          go_roundw
          case rel => exact ⟨E, A', q', 2, by rw [hEl], rfl, by omega, HD2, HO2, HC2, HB3⟩
          case measure => simp [intOf]
        · have HD2 : Hid (D = usU f1 f2 f3 a b k 2) := lhid (by rw [HD.out]; simp [usU, HDT.out])
          clear hD2
          rw [t2] at HHH
          go_wp2_with fail
          with_reducible refine (HHH.out _).mono ?_
          rintro e w3 ⟨rfl, rfl⟩
          go_wp2_with fail
          go_roundw
          case rel => exact ⟨D, A, q, 2, rfl, rfl, by omega, HD2, HO, HC, HB⟩
          case measure => simp [intOf]
        · rw [t2] at HHH
          have HD2 : Hid (D ++ [b] = usU f1 f2 f3 a b k 2) := lhid (by rw [HD.out]; simp [usU, HDT.out])
          clear hD2
          go_wp2_with fail
          with_reducible refine (HHH.out _).mono ?_
          rintro e w3 ⟨rfl, rfl⟩
          go_wp2_with (at_builtin; refine wpList_append_own _ rfl (.tmp 42) (.tmp 44) 22 rfl (w2.heap.size + 1) 3 i0 (.int .i64 0) 1 8 Try.underlying22 hi0 hz0 hz1 hz2 rfl (by decide) (.slice A D.length q) D.length (D.map vI) rfl (HO.out.alloc _) ⟨wr.heap.size, 0, none⟩ 1 1 [vI b] rfl rfl ?g3c1 ?g3c2 ?g3c3 ?g3c4 ?g3c5 ?_)
          try case g3c1 => exact new_cells _ _ _
          case g3c2 => first | rfl | (intro u hu; simp at hu; subst hu; rfl)
          case g3c3 => unfold maxLen; omega
          case g3c4 => omega
          case g3c5 => first | omega | (simp; omega)
          intro v' w' hown hgrow hnil
          have hsh := own_shape hown
          obtain ⟨A', q', rfl⟩ := hsh
          have HO2 : Hid (OwN w' (w2.heap.size + 1) (.slice A' (D ++ [b]).length q') (D ++ [b])) := lhid (by simpa [OwN] using hown)
          have HC2 : Hid (w'.heap[w2.heap.size]? = some (.cells #[.int .u64 f1, .int .u64 f2, .int .u64 f3] 97 (0, 0))) := lhid ((hgrow.block w2.heap.size (by simp; omega) (fun e => by have := own_lt HO.out w2.heap.size (by first | exact e.symm | exact e); omega)).trans ((Below.heap_alloc _ _ _ hRlt).trans HC.out))
          have HB3 := lhid (Below.grown (HB.out.alloc HB.out.size _) hgrow (by simp; have := HB.out.size; omega) (fun k e => by have := own_lt HO.out k e; omega))
          obtain ⟨E, hE⟩ : ∃ E, D ++ [b] = E := ⟨_, rfl⟩
          have hEl : D.length + 1 = E.length := by rw [← hE]; simp
          rw [hE] at HO2 HD2
          clear hown hgrow hnil hE
          go_wp2_with fail
          go_roundw
          case rel => exact ⟨E, A', q', 2, by rw [hEl], rfl, by omega, HD2, HO2, HC2, HB3⟩
          case measure => simp [intOf]
      · have HH := has_any f3 0 hfs.2.2.1 (.inl rfl)
        have HHH := lhid HH
        clear HH hfs
        rcases tk_ways f3 k with ⟨HT, t0⟩ | ⟨HT, t0, t1⟩ | ⟨HT, t0, t1, t2⟩ | ⟨HT, t0, t1, t2⟩
        all_goals
          have hD2 := HD.out
          have HDT := lhid HT
          clear HT
        · have HD2 : Hid (D = usU f1 f2 f3 a b k 3) := lhid (by rw [HD.out]; simp [usU, HDT.out])
          clear hD2
          obtain rfl := eq_of_beq t0
          clear t0
          go_wp2_with fail
          go_roundw
          case rel => exact ⟨D, A, q, 3, rfl, rfl, by omega, HD2, HO, HC, HB⟩
          case measure => simp [intOf]
        · have HD2 : Hid (D ++ [k] = usU f1 f2 f3 a b k 3) := lhid (by rw [HD.out]; simp [usU, HDT.out])
          clear hD2
          go_wp2_with (at_builtin; refine wpList_append_own _ rfl (.tmp 42) (.tmp 44) 22 rfl (w2.heap.size + 1) 3 i0 (.int .i64 0) 1 8 Try.underlying22 hi0 hz0 hz1 hz2 rfl (by decide) (.slice A D.length q) D.length (D.map vI) rfl (HO.out.alloc _) ⟨wr.heap.size, 0, none⟩ 1 1 [vI k] rfl rfl ?g4c1 ?g4c2 ?g4c3 ?g4c4 ?g4c5 ?_)
          try case g4c1 => exact new_cells _ _ _
          case g4c2 => first | rfl | (intro u hu; simp at hu; subst hu; rfl)
          case g4c3 => unfold maxLen; omega
          case g4c4 => omega
          case g4c5 => first | omega | (simp; omega)
          intro v' w' hown hgrow hnil
          have hsh := own_shape hown
          obtain ⟨A', q', rfl⟩ := hsh
          have HO2 : Hid (OwN w' (w2.heap.size + 1) (.slice A' (D ++ [k]).length q') (D ++ [k])) := lhid (by simpa [OwN] using hown)
          have HC2 : Hid (w'.heap[w2.heap.size]? = some (.cells #[.int .u64 f1, .int .u64 f2, .int .u64 f3] 97 (0, 0))) := lhid ((hgrow.block w2.heap.size (by simp; omega) (fun e => by have := own_lt HO.out w2.heap.size (by first | exact e.symm | exact e); omega)).trans ((Below.heap_alloc _ _ _ hRlt).trans HC.out))
          have HB3 := lhid (Below.grown (HB.out.alloc HB.out.size _) hgrow (by simp; have := HB.out.size; omega) (fun k e => by have := own_lt HO.out k e; omega))
          obtain ⟨E, hE⟩ : ∃ E, D ++ [k] = E := ⟨_, rfl⟩
          have hEl : D.length + 1 = E.length := by rw [← hE]; simp
          rw [hE] at HO2 HD2
          clear hown hgrow hnil hE
          go_wp2_with fail
          go_roundw
          case rel => exact ⟨E, A', q', 3, by rw [hEl], rfl, by omega, HD2, HO2, HC2, HB3⟩
          case measure => simp [intOf]
        · have HD2 : Hid (D = usU f1 f2 f3 a b k 3) := lhid (by rw [HD.out]; simp [usU, HDT.out])
          clear hD2
          rw [t2] at HHH
          go_wp2_with fail
          with_reducible refine (HHH.out _).mono ?_
          rintro e w3 ⟨rfl, rfl⟩
          go_wp2_with fail
          go_roundw
          case rel => exact ⟨D, A, q, 3, rfl, rfl, by omega, HD2, HO, HC, HB⟩
          case measure => simp [intOf]
        · rw [t2] at HHH
          have HD2 : Hid (D ++ [k] = usU f1 f2 f3 a b k 3) := lhid (by rw [HD.out]; simp [usU, HDT.out])
          clear hD2
          go_wp2_with fail
          with_reducible refine (HHH.out _).mono ?_
          rintro e w3 ⟨rfl, rfl⟩
          go_wp2_with (at_builtin; refine wpList_append_own _ rfl (.tmp 42) (.tmp 44) 22 rfl (w2.heap.size + 1) 3 i0 (.int .i64 0) 1 8 Try.underlying22 hi0 hz0 hz1 hz2 rfl (by decide) (.slice A D.length q) D.length (D.map vI) rfl (HO.out.alloc _) ⟨wr.heap.size, 0, none⟩ 1 1 [vI k] rfl rfl ?g5c1 ?g5c2 ?g5c3 ?g5c4 ?g5c5 ?_)
          try case g5c1 => exact new_cells _ _ _
          case g5c2 => first | rfl | (intro u hu; simp at hu; subst hu; rfl)
          case g5c3 => unfold maxLen; omega
          case g5c4 => omega
          case g5c5 => first | omega | (simp; omega)
          intro v' w' hown hgrow hnil
          have hsh := own_shape hown
          obtain ⟨A', q', rfl⟩ := hsh
          have HO2 : Hid (OwN w' (w2.heap.size + 1) (.slice A' (D ++ [k]).length q') (D ++ [k])) := lhid (by simpa [OwN] using hown)
          have HC2 : Hid (w'.heap[w2.heap.size]? = some (.cells #[.int .u64 f1, .int .u64 f2, .int .u64 f3] 97 (0, 0))) := lhid ((hgrow.block w2.heap.size (by simp; omega) (fun e => by have := own_lt HO.out w2.heap.size (by first | exact e.symm | exact e); omega)).trans ((Below.heap_alloc _ _ _ hRlt).trans HC.out))
          have HB3 := lhid (Below.grown (HB.out.alloc HB.out.size _) hgrow (by simp; have := HB.out.size; omega) (fun k e => by have := own_lt HO.out k e; omega))
          obtain ⟨E, hE⟩ : ∃ E, D ++ [k] = E := ⟨_, rfl⟩
          have hEl : D.length + 1 = E.length := by rw [← hE]; simp
          rw [hE] at HO2 HD2
          clear hown hgrow hnil hE
          go_wp2_with fail
          go_roundw
          case rel => exact ⟨E, A', q', 3, by rw [hEl], rfl, by omega, HD2, HO2, HC2, HB3⟩
          case measure => simp [intOf]
      · go_wp2_with fail
        go_ret
        refine ⟨_, rfl, ?_, HB.out⟩
        rw [← HU0.out, ← HD.out]
        exact own_base HO.out (by omega)
  · have HU := lhid (huc rfl)
    clear hus huc hfs
    have HX := h
    go_enter Try.func70, Try.ntmps70
    go_wp2_with fail
    with_reducible refine (HCa _).out.mono ?_
    rintro e w1 ⟨rfl, hb⟩
    have h0 := (hb.block w.heap.size (by simp)).trans (heap_alloc_new w _)
    have c8 : w1.cell? ⟨w.heap.size, 8, none⟩ = some v := heap_cell h0 rfl
    have hb1 := ((Below.refl w.heap.size w).alloc (Nat.le_refl _) _).trans (hb.mono (by simp))
    have HB1 := lhid hb1
    have HX1 := lhid (h.out.below (keptX_nu _) hb1)
    clear hb h0 hb1
    go_wp2_with fail
    with_reducible refine (clone_nu row_nu _ _ _ HX1 hby.out).mono ?_
    rintro e w2 ⟨v', xs, rfl, ho, hr, hb⟩
    have HB2 := lhid (HB1.out.trans (hb.mono HB1.out.size))
    have HO := lhid ho
    have HR := lhid (rowsE_nu hr)
    have HS := lhid HB1.out.size
    clear ho hr hb
    go_wp2_with fail
    go_ret
    refine ⟨_, rfl, ?_, HB2.out⟩
    rw [HU.out]
    have := HO.out
    rw [HR.out] at this
    exact own_base this HS.out
end Go.Proofs.Ytifgkpfieapdjaa
/- Contracts of the document's words on the table: Ints, in, row, Calls, Throws, Pure, Leads, Ends, Def. -/
namespace Go.Proofs.Ytifgkpfieapdjaa
open Go.RowKit Go
set_option linter.unusedVariables false
set_option linter.unusedSimpArgs false

def Tru (_ : Nat) : Prop := True
/-- A slice of numbers that is written out. -/
theorem rd_lit (w : World) (l : List Int) (c : Array Value) (n m : Nat) (T : TypeId) (hc : c = (l.map fun z => Value.int .i64 z).toArray) (hn : n = l.length) (hl : l.length ≤ 140737488355328) : RdX Tru 1 NuE (w.alloc (.cells c T)) (.slice (some ⟨w.heap.size, 0, none⟩) n m) l := by
  subst hc hn
  refine ⟨_, m, rfl, fun e => (by cases e), hl, fun i a hi => ⟨w.heap.size, 0, [.int .i64 a], rfl, trivial, rfl, fun j u hj => ?_⟩⟩
  cases j with
  | succ j => simp at hj
  | zero =>
    simp at hj
    subst hj
    refine heap_cell (heap_alloc_new w _) ?_
    simp [hi]
set_option maxHeartbeats 1000000 in
set_option maxRecDepth 100000 in
theorem rin_any {P : Nat → Prop} (c : Int) (v : Value) (l : List Int) (w : World) (h : Hid (RdX P 1 NuE w v l)) :
    Calls Try.prog 47 #[.int .i64 c, v] w fun e w' => e = .returned (.bool (decide (c ∈ l))) ∧ w = w' := by
  obtain ⟨A, cap, rfl⟩ := h.out.shape
  have hl := h.out.len
  go_enter Try.func47, Try.ntmps47
  go_wp2_with fail
  go_loopw [5] (fun i wr => ∃ k : Nat, i = .int .i64 k ∧ k ≤ l.length ∧ Hid (c ∉ l.take k) ∧ wr = w) (fun i _ => l.length - (intOf i).toNat)
  case atStart => exact ⟨0, rfl, Nat.zero_le _, lhid (by simp), rfl⟩
  case round =>
    obtain ⟨k, rfl, hk, HN, rfl⟩ := hrel
    by_cases hlt : k < l.length
    · obtain ⟨x, hx⟩ : ∃ x, l[k]? = some x := ⟨_, List.getElem?_eq_getElem hlt⟩
      obtain ⟨g, o, cc, rfl, _, hE, hc⟩ := h.out.at' hx
      have c0 : wr.cell? ⟨g, o + k, none⟩ = some (.int .i64 x) := by
        have := hc 0 (.int .i64 x) (by rw [hE]; rfl)
        rwa [Nat.mul_one] at this
      have k3 : (k : Int) < l.length := by omega
      have HX := lhid hx
      clear hx hc hE
      by_cases hxc : x = c
      · have HM := lhid (List.mem_of_getElem? HX.out)
        have d0 : (x == c) = true := by rw [hxc]; simp
        have HXC := lhid hxc
        clear hxc
        go_wp2_with fail
        go_ret
        exact ⟨ret_bool (by rw [← HXC.out, decide_eq_true HM.out]), rfl⟩
      · have d0 : (x == c) = false := by rw [beq_eq_false_iff_ne]; exact hxc
        have HM2 : Hid (c ∉ l.take (k + 1)) := lhid (by rw [List.take_add_one, HX.out]; simp only [Option.toList_some, List.mem_append, List.mem_singleton, not_or]; exact ⟨HN.out, fun e => hxc e.symm⟩)
        clear hxc
        go_wp2_with fail
        go_roundw
        case rel => exact ⟨k + 1, by go_num, by omega, HM2, trivial⟩
        case measure => simp [intOf]; omega
    · have k3 : ¬ (k : Int) < l.length := by omega
      have hn := HN.out
      rw [List.take_of_length_le (by omega)] at hn
      have HN2 := lhid hn
      clear hn HN
      go_wp2_with fail
      go_ret
      exact ⟨ret_bool (by rw [decide_eq_false HN2.out]), rfl⟩
theorem rin_r {P : Nat → Prop} (c : Int) (v : Value) (l : List Int) (r : Bool) (w : World) (h : RdX P 1 NuE w v l) (hr : Hid (decide (c ∈ l) = r)) :
    Calls Try.prog 47 #[.int .i64 c, v] w fun e w' => e = .returned (.bool r) ∧ w = w' := by
  have := rin_any c v l w (lhid h)
  rwa [hr.out] at this
set_option maxHeartbeats 1000000 in
set_option maxRecDepth 100000 in
theorem rcalls_any (c : Int) (w : World) :
    Calls Try.prog 58 #[.int .i64 c] w fun e w' => e = .returned (.bool (callsB c)) ∧ w = w' := by
  have key : callsB c = (decide (23 ≤ c) && decide (c ≤ 26)) := by
    unfold callsB
    rw [Bool.eq_iff_iff]
    simp
    omega
  rw [key]
  by_cases h1 : 23 ≤ c <;> by_cases h2 : c ≤ 26
  all_goals
    go_enter Try.func58, Try.ntmps58
    go_wp2
    go_ret
    exact ⟨ret_bool (by simp [h1, h2]), rfl⟩
set_option maxHeartbeats 1000000 in
set_option maxRecDepth 100000 in
theorem rleads_any (c : Int) (w : World) :
    Calls Try.prog 42 #[.int .i64 c] w fun e w' => e = .returned (.bool (leadsB c)) ∧ Below w.heap.size w w' := by
  go_enter Try.func42, Try.ntmps42
  go_wp2_with fail
  with_reducible refine (rin_r c _ [27, 28, 29] (leadsB c) _ (rd_lit _ _ _ _ _ _ (by with_unfolding_all rfl) (by with_unfolding_all rfl) (by decide)) (lhid rfl)).mono ?_
  rintro e w1 ⟨rfl, rfl⟩
  go_wp2_with fail
  go_ret
  exact ⟨rfl, (Below.refl w.heap.size w).alloc (Nat.le_refl _) _⟩
set_option maxHeartbeats 1000000 in
set_option maxRecDepth 100000 in
theorem rends_any (c : Int) (w : World) :
    Calls Try.prog 45 #[.int .i64 c] w fun e w' => e = .returned (.bool (endsB c)) ∧ Below w.heap.size w w' := by
  go_enter Try.func45, Try.ntmps45
  go_wp2_with fail
  with_reducible refine (rin_r c _ [27, 30, 31] (endsB c) _ (rd_lit _ _ _ _ _ _ (by with_unfolding_all rfl) (by with_unfolding_all rfl) (by decide)) (lhid rfl)).mono ?_
  rintro e w1 ⟨rfl, rfl⟩
  go_wp2_with fail
  go_ret
  exact ⟨rfl, (Below.refl w.heap.size w).alloc (Nat.le_refl _) _⟩
theorem throws_parts (c : Int) : throwsB c = (((decide (7 ≤ c) && decide (c ≤ 12)) || decide (c ∈ ([20, 21, 31] : List Int))) || callsB c) := by
  unfold throwsB callsB
  rw [Bool.eq_iff_iff]
  simp
  omega
set_option maxHeartbeats 1000000 in
set_option maxRecDepth 100000 in
theorem rthrows_any (c : Int) (w : World) :
    Calls Try.prog 26 #[.int .i64 c] w fun e w' => e = .returned (.bool (throwsB c)) ∧ Below w.heap.size w w' := by
  rw [throws_parts]
  have HC : ∀ w, Hid (Calls Try.prog 58 #[.int .i64 c] w fun e w' => e = .returned (.bool (callsB c)) ∧ w = w') := fun w => lhid (rcalls_any c w)
  obtain ⟨r, hr⟩ : ∃ r, decide (c ∈ ([20, 21, 31] : List Int)) = r := ⟨_, rfl⟩
  have HR := lhid hr
  rw [hr]
  generalize callsB c = z at *
  clear hr
  by_cases h1 : 7 ≤ c <;> by_cases h2 : c ≤ 12 <;> cases r <;> cases z
  all_goals try (exfalso; omega)
  all_goals
    go_enter Try.func26, Try.ntmps26
    go_wp2_with (first
      | (go_at_call 47; with_reducible refine (rin_r c _ [20, 21, 31] _ _ (rd_lit _ _ _ _ _ _ (by with_unfolding_all rfl) (by with_unfolding_all rfl) (by decide)) HR).mono ?_; rintro e w1 ⟨rfl, rfl⟩)
      | (go_at_call 58; with_reducible refine (HC _).out.mono ?_; rintro e w1 ⟨rfl, rfl⟩))
    go_ret
    exact ⟨ret_bool (by simp [h1, h2]), by first | exact Below.refl _ _ | exact (Below.refl w.heap.size w).alloc (Nat.le_refl _) _⟩
theorem row_lit (c : Int) : rowT c = [] ∨ (rowT c).length = 4 := by
  refine all_ops (Q := fun c => rowT c = [] ∨ (rowT c).length = 4) (by decide +kernel) (fun c hc => .inl (out_of c hc).2.2.2.2.2.2.2.2) c
end Go.Proofs.Ytifgkpfieapdjaa
/- Replace in plain words: what goes back is what it was. No program in this text. -/
namespace Go.Proofs.Ytifgkpfieapdjaa
open Go.RowKit Go
set_option linter.unusedVariables false

/-- With other registers to read. -/
def replI (x : InI) (l : List Int) : InI :=
  if l.length = (usesI x).length then
    if callsB x.op then { x with args := l }
    else { x with a := (l ++ [x.a, x.b, x.c].drop l.length).getD 0 0, b := (l ++ [x.a, x.b, x.c].drop l.length).getD 1 0, c := (l ++ [x.a, x.b, x.c].drop l.length).getD 2 0 }
  else x
theorem calls_rk {c : Int} (h : callsB c = true) : rk c = 6 := by
  unfold callsB at h
  rw [decide_eq_true_eq] at h
  simp only [List.mem_cons, List.not_mem_nil, or_false] at h
  rcases h with e | e | e | e <;> rw [e] <;> decide
theorem rk_calls {c : Int} : rk c = 6 → callsB c = true := by
  refine all_ops (Q := fun c => rk c = 6 → callsB c = true) (by decide +kernel) (fun c hc h => ?_) c
  rw [(out_of c hc).1] at h
  cases h
theorem rk_none {c : Int} (h : callsB c = false) : rk c ≠ 6 := fun e => by rw [rk_calls e] at h; cases h
theorem rk_cases (c : Int) : rk c = 0 ∨ rk c = 1 ∨ rk c = 2 ∨ rk c = 3 ∨ rk c = 4 ∨ rk c = 5 ∨ rk c = 6 := by
  have := rk_ways c
  omega
theorem u0 {x : InI} (h : rk x.op = 0) : usesI x = [] := by
  unfold usesI
  rw [h]
  rfl
theorem u1 {x : InI} (h : rk x.op = 1) : usesI x = [x.a] := by
  unfold usesI
  rw [h]
  rfl
theorem u2 {x : InI} (h : rk x.op = 2) : usesI x = [x.a, x.b] := by
  unfold usesI
  rw [h]
  rfl
theorem u3 {x : InI} (h : rk x.op = 3) : usesI x = [x.a, x.b, x.c] := by
  unfold usesI
  rw [h]
  rfl
theorem u4 {x : InI} (h : rk x.op = 4) : usesI x = (if 0 ≤ x.b then [x.a, x.b] else [x.a]) := by
  unfold usesI
  rw [h]
  rfl
theorem u5 {x : InI} (h : rk x.op = 5) : usesI x = (if 0 ≤ x.a then [x.a] else []) := by
  unfold usesI
  rw [h]
  rfl
theorem u6 {x : InI} (h : rk x.op = 6) : usesI x = x.args := by
  unfold usesI
  rw [h]
  rfl
theorem uses3 {x : InI} (h : callsB x.op = false) : (usesI x).length ≤ 3 := by
  rcases rk_cases x.op with e | e | e | e | e | e | e
  · rw [u0 e]; simp
  · rw [u1 e]; simp
  · rw [u2 e]; simp
  · rw [u3 e]; simp
  · rw [u4 e]; split <;> simp
  · rw [u5 e]; split <;> simp
  · exact absurd e (rk_none h)
/-- The three fields with others ahead. -/
def pl (l : List Int) (a b c : Int) : List Int := l ++ [a, b, c].drop l.length
theorem replI_eq {x : InI} {l : List Int} (hl : l.length = (usesI x).length) (hc : callsB x.op = false) : replI x l = { x with a := (pl l x.a x.b x.c).getD 0 0, b := (pl l x.a x.b x.c).getD 1 0, c := (pl l x.a x.b x.c).getD 2 0 } := by
  unfold replI pl
  rw [if_pos hl, hc]
  rfl
theorem replI_calls {x : InI} {l : List Int} (hl : l.length = (usesI x).length) (hc : callsB x.op = true) : replI x l = { x with args := l } := by
  unfold replI
  rw [if_pos hl, if_pos hc]
theorem replI_ne {x : InI} {l : List Int} (hl : ¬ l.length = (usesI x).length) : replI x l = x := by
  unfold replI
  rw [if_neg hl]
theorem pl_own {x : InI} (hc : callsB x.op = false) : (pl (usesI x) x.a x.b x.c).getD 0 0 = x.a ∧ (pl (usesI x) x.a x.b x.c).getD 1 0 = x.b ∧ (pl (usesI x) x.a x.b x.c).getD 2 0 = x.c := by
  rcases rk_cases x.op with e | e | e | e | e | e | e
  · rw [u0 e]; exact ⟨rfl, rfl, rfl⟩
  · rw [u1 e]; exact ⟨rfl, rfl, rfl⟩
  · rw [u2 e]; exact ⟨rfl, rfl, rfl⟩
  · rw [u3 e]; exact ⟨rfl, rfl, rfl⟩
  · rw [u4 e]; split <;> exact ⟨rfl, rfl, rfl⟩
  · rw [u5 e]; split <;> exact ⟨rfl, rfl, rfl⟩
  · exact absurd e (rk_none hc)
theorem repl_own (x : InI) : replI x (usesI x) = x := by
  cases hc : callsB x.op with
  | true => rw [replI_calls rfl hc, u6 (calls_rk hc)]
  | false =>
    obtain ⟨h1, h2, h3⟩ := pl_own hc
    rw [replI_eq rfl hc, h1, h2, h3]
theorem repl_op (x : InI) (l : List Int) : (replI x l).op = x.op := by
  unfold replI
  split
  · split <;> rfl
  · rfl
theorem repl_dst (x : InI) (l : List Int) : (replI x l).dst = x.dst := by
  unfold replI
  split
  · split <;> rfl
  · rfl
theorem repl_def (x : InI) (l : List Int) : defI (replI x l) = defI x := by
  unfold defI
  rw [repl_op, repl_dst]
/-- What it reads then, where nothing is below 0. -/
theorem repl_uses (x : InI) (l : List Int) (hl : l.length = (usesI x).length) (h0 : ∀ z ∈ l, 0 ≤ z) : usesI (replI x l) = l := by
  have hop := repl_op x l
  cases hc : callsB x.op with
  | true => rw [u6 (x := replI x l) (by rw [hop]; exact calls_rk hc), replI_calls hl hc]
  | false =>
    have hr := replI_eq hl hc
    rcases rk_cases x.op with e | e | e | e | e | e | e
    · rw [u0 (x := replI x l) (by rw [hop]; exact e)]
      rw [u0 e] at hl
      exact (List.length_eq_zero_iff.1 hl).symm
    · rw [u1 (x := replI x l) (by rw [hop]; exact e), hr]
      rw [u1 e] at hl
      match l, hl with
      | [p], _ => rfl
    · rw [u2 (x := replI x l) (by rw [hop]; exact e), hr]
      rw [u2 e] at hl
      match l, hl with
      | [p, q], _ => rfl
    · rw [u3 (x := replI x l) (by rw [hop]; exact e), hr]
      rw [u3 e] at hl
      match l, hl with
      | [p, q, s], _ => rfl
    · rw [u4 (x := replI x l) (by rw [hop]; exact e), hr]
      rw [u4 e] at hl
      by_cases hb : 0 ≤ x.b
      · rw [if_pos hb] at hl
        match l, hl, h0 with
        | [p, q], _, h0 => exact if_pos (h0 q (by simp))
      · rw [if_neg hb] at hl
        match l, hl with
        | [p], _ => exact if_neg hb
    · rw [u5 (x := replI x l) (by rw [hop]; exact e), hr]
      rw [u5 e] at hl
      by_cases hb : 0 ≤ x.a
      · rw [if_pos hb] at hl
        match l, hl, h0 with
        | [p], _, h0 => exact if_pos (h0 p (by simp))
      · rw [if_neg hb] at hl
        match l, hl with
        | [], _ => exact if_neg hb
    · exact absurd e (rk_none hc)
theorem pl_back (U l : List Int) (a b c : Int) (hU : U.length ≤ 3) (hL : l.length = U.length) (i : Nat) : (pl U ((pl l a b c).getD 0 0) ((pl l a b c).getD 1 0) ((pl l a b c).getD 2 0)).getD i 0 = (pl U a b c).getD i 0 := by
  match U, l, hU, hL with
  | [], [], _, _ => rfl
  | [u], [p], _, _ => rfl
  | [u, v], [p, q], _, _ => rfl
  | [u, v, w], [p, q, s], _, _ => rfl
/-- Put back it is what it was. -/
theorem repl_back (x : InI) (l : List Int) (hl : l.length = (usesI x).length) (h0 : ∀ z ∈ l, 0 ≤ z) : replI (replI x l) (usesI x) = x := by
  have hu := repl_uses x l hl h0
  have hop := repl_op x l
  have hlen : (usesI x).length = (usesI (replI x l)).length := by rw [hu]; exact hl.symm
  cases hc : callsB x.op with
  | true =>
    rw [replI_calls hlen (by rw [hop]; exact hc), replI_calls hl hc, u6 (calls_rk hc)]
  | false =>
    obtain ⟨h1, h2, h3⟩ := pl_own hc
    rw [replI_eq hlen (by rw [hop]; exact hc), replI_eq hl hc]
    dsimp only
    rw [pl_back _ _ _ _ _ (uses3 hc) hl, pl_back _ _ _ _ _ (uses3 hc) hl, pl_back _ _ _ _ _ (uses3 hc) hl, h1, h2, h3]
end Go.Proofs.Ytifgkpfieapdjaa
