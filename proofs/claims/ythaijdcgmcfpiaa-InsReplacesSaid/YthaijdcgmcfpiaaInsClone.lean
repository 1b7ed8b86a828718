/- slices.Clone at int, api.Row, api.Ins. -/
import Derived.Test.YthaijdcgmcfpiaaInsBase
import Derived.Laws.AppendOwnNone
namespace Go.Proofs.Ythaijdcgmcfpiaa
open Go.RowKit Go
set_option linter.unusedVariables false

/-- Rows of k cells, each cell a value of its own. -/
def Row1 {α : Type} (k : Nat) (E : World → α → List Value → Prop) : Prop := ∀ w a c, E w a c → c.length = k ∧ ∀ u, u ∈ c → u.oneCell' = true
theorem one_sl {α : Type} {P : Nat → Prop} {k : Nat} {E : World → α → List Value → Prop} {w : World} {v : Value} {l : List α} (h : RdX P k E w v l) : v.oneCell' = true := by
  obtain ⟨A, c, rfl⟩ := h.shape
  rfl
theorem info_parts {P : Program} {e : TypeId} {z : Value} {n b : Nat} (h : (P.info? e).map (fun i => (i.zero, i.size, i.bytes)) = some (some z, n, b)) : ∃ i, P.info? e = some i ∧ i.zero = some z ∧ i.size = n ∧ i.bytes = b := by
  cases hi : P.info? e with
  | none => rw [hi] at h; cases h
  | some i =>
    rw [hi] at h
    simp only [Option.map_some, Option.some.injEq, Prod.mk.injEq] at h
    exact ⟨i, rfl, h⟩
theorem row_nu : Row1 1 NuE := by rintro w a c rfl; simp [Value.oneCell']
theorem row_rw : Row1 4 RwE := by rintro w a c rfl; simp [Value.oneCell']
theorem row_in (P : Nat → Prop) : Row1 9 (InE P) := by
  rintro w f c ⟨a, rfl, h1⟩
  have e1 := one_sl h1
  simp [e1]
  simp [Value.oneCell']
/-- What a slice that can be read holds, as one list of cells. -/
theorem rdX_cells {α : Type} {P : Nat → Prop} {k : Nat} {E : World → α → List Value → Prop} (hk : Row1 k E) {w : World} {ad : Addr} {n cap : Nat} {l : List α} (h : RdX P k E w (.slice (some ad) n cap) l) :
    ∃ xs, RowsE k (E w) l xs ∧ (∀ (j : Nat) u, xs[j]? = some u → w.cell? (ad.add j) = some u) ∧ ∀ u, u ∈ xs → u.oneCell' = true := by
  cases l with
  | nil => exact ⟨[], rowsE_nil _ _, fun j u hj => by simp at hj, fun u hu => by simp at hu⟩
  | cons a0 r =>
    obtain ⟨g, o, c0, hA, _, hE0, _⟩ := h.at' (i := 0) (a := a0) rfl
    injection hA with hA
    subst hA
    obtain ⟨xs, h1, h2⟩ := rows_list (fun a c hc => (hk w a c hc).1) (fun j => w.cell? ⟨g, j, none⟩) (a0 :: r) o (fun i a hi => by
      obtain ⟨g', o', c, hA', _, h5, h6⟩ := h.at' hi
      injection hA' with hA'
      injection hA' with e1 e2
      subst e1
      subst e2
      exact ⟨c, h5, h6⟩)
    refine ⟨xs, h1, fun j u hj => by rw [addr_add]; exact h2 j u hj, fun u hu => ?_⟩
    obtain ⟨j, hj⟩ := List.getElem?_of_mem hu
    have hlen := (List.getElem?_eq_some_iff.1 hj).1
    have h0 := hk w a0 c0 hE0
    rw [h1.1] at hlen
    have hkpos : 0 < k := by
      rcases Nat.eq_zero_or_pos k with e | e
      · rw [e] at hlen; omega
      · exact e
    have hdiv : j / k < (a0 :: r).length := by rw [Nat.div_lt_iff_lt_mul hkpos]; exact hlen
    obtain ⟨c, h3, h4⟩ := h1.2 (j / k) _ (List.getElem?_eq_getElem hdiv)
    have hc := (hk w _ c h3)
    have hm : j % k < c.length := by rw [hc.1]; exact Nat.mod_lt _ hkpos
    have h5 := h4 (j % k) _ (List.getElem?_eq_getElem hm)
    rw [show j / k * k + j % k = j by rw [Nat.mul_comm]; exact Nat.div_add_mod j k, hj] at h5
    injection h5 with h5
    rw [h5]
    exact hc.2 _ (List.getElem_mem hm)

theorem info_nu : (Try.prog.info? 3).map (fun i => (i.zero, i.size, i.bytes)) = some (some (.int .i64 0), 1, 8) := by kernel_rfl
set_option maxHeartbeats 1000000 in
set_option maxRecDepth 100000 in
theorem clone_nu {α : Type} {P : Nat → Prop} {E : World → α → List Value → Prop} (hk : Row1 1 E) (v : Value) (l : List α) (w : World) (h : Hid (RdX P 1 E w v l)) (hby : l.length * 8 ≤ 140737488355328) :
    Calls Try.prog 50 #[v] w fun e w' => ∃ v' xs, e = .returned v' ∧ w'.ownsRow w.heap.size 3 1 v' l.length xs ∧ RowsE 1 (E w) l xs ∧ Below w.heap.size w w' := by
  obtain ⟨A, cap, rfl⟩ := h.out.shape
  have hlen := h.out.len
  obtain ⟨i0, hi, hz0, hz1, hz2⟩ := info_parts info_nu
  cases A with
  | none =>
    have hl := h.out.none0.1
    subst hl
    have hq : ∀ w', (binOp .eql 22 (.slice none 0 cap) (.slice none 0 0)).run Try.prog w' = .ok (.bool true) w' := fun w' => by kernel_rfl
    go_enter Try.func50, Try.ntmps50
    go_wp2_with fail
    go_ret
    exact ⟨_, [], rfl, World.ownsRow_nil _ _ _ _, rowsE_nil _ _, Below.refl _ _⟩
  | some ad =>
    obtain ⟨xs, HX⟩ : ∃ xs, Hid (RowsE 1 (E w) l xs ∧ (∀ (j : Nat) u, xs[j]? = some u → w.cell? (ad.add j) = some u) ∧ ∀ u, u ∈ xs → u.oneCell' = true) := by
      obtain ⟨xs, hx⟩ := rdX_cells hk h.out
      exact ⟨xs, lhid hx⟩
    have hq : ∀ w', (binOp .eql 22 (.slice (some ad) l.length cap) (.slice none 0 0)).run Try.prog w' = .ok (.bool false) w' := fun w' => by kernel_rfl
    go_enter Try.func50, Try.ntmps50
    go_wp2_with (at_builtin; refine wpList_append_own _ rfl (.tmp 5) (.tmp 6) 22 rfl w.heap.size 3 i0 (.int .i64 0) 1 8 Try.underlying22 hi hz0 hz1 hz2 rfl (by decide) (.slice (some ⟨w.heap.size, 0, none⟩) 0 0) 0 [] rfl (World.ownsRow_lit _ #[] 0 (Nat.le_refl _) (Nat.zero_le _) (by simp)) ad l.length cap xs rfl HX.out.1.1 ?a2 HX.out.2.2 ?a4 ?a5 ?a6 ?_)
    case a2 =>
      intro j u hj
      have h1 := HX.out.2.1 j u hj
      rw [Go.RowKit.Below.cell ((Below.refl w.heap.size w).alloc (Nat.le_refl _) _) (cell_lt h1)]
      exact h1
    case a4 => unfold maxLen; omega
    case a5 => omega
    case a6 => simp
    intro v' w' hown hgrow hnil
    go_wp2_with fail
    go_ret
    refine ⟨v', xs, rfl, ?_, HX.out.1, ?_⟩
    · exact hown
    · exact Below.grown ((Below.refl _ _).alloc (Nat.le_refl _) _) hgrow (by simp) (by rintro k e; injection e with e; rw [← e]; exact Nat.le_refl _)

theorem info_rw : (Try.prog.info? 45).map (fun i => (i.zero, i.size, i.bytes)) = some (some (.agg #[.int .i64 0, .int .i64 0, .int .i64 0, .string ⟨#[]⟩]), 4, 40) := by kernel_rfl
set_option maxHeartbeats 1000000 in
set_option maxRecDepth 100000 in
theorem clone_rw {α : Type} {P : Nat → Prop} {E : World → α → List Value → Prop} (hk : Row1 4 E) (v : Value) (l : List α) (w : World) (h : Hid (RdX P 4 E w v l)) (hby : l.length * 40 ≤ 140737488355328) :
    Calls Try.prog 61 #[v] w fun e w' => ∃ v' xs, e = .returned v' ∧ w'.ownsRow w.heap.size 45 4 v' l.length xs ∧ RowsE 4 (E w) l xs ∧ Below w.heap.size w w' := by
  obtain ⟨A, cap, rfl⟩ := h.out.shape
  have hlen := h.out.len
  obtain ⟨i0, hi, hz0, hz1, hz2⟩ := info_parts info_rw
  cases A with
  | none =>
    have hl := h.out.none0.1
    subst hl
    have hq : ∀ w', (binOp .eql 32 (.slice none 0 cap) (.slice none 0 0)).run Try.prog w' = .ok (.bool true) w' := fun w' => by kernel_rfl
    go_enter Try.func61, Try.ntmps61
    go_wp2_with fail
    go_ret
    exact ⟨_, [], rfl, World.ownsRow_nil _ _ _ _, rowsE_nil _ _, Below.refl _ _⟩
  | some ad =>
    obtain ⟨xs, HX⟩ : ∃ xs, Hid (RowsE 4 (E w) l xs ∧ (∀ (j : Nat) u, xs[j]? = some u → w.cell? (ad.add j) = some u) ∧ ∀ u, u ∈ xs → u.oneCell' = true) := by
      obtain ⟨xs, hx⟩ := rdX_cells hk h.out
      exact ⟨xs, lhid hx⟩
    have hq : ∀ w', (binOp .eql 32 (.slice (some ad) l.length cap) (.slice none 0 0)).run Try.prog w' = .ok (.bool false) w' := fun w' => by kernel_rfl
    go_enter Try.func61, Try.ntmps61
    go_wp2_with (at_builtin; refine wpList_append_own _ rfl (.tmp 5) (.tmp 6) 32 rfl w.heap.size 45 i0 (.agg #[.int .i64 0, .int .i64 0, .int .i64 0, .string ⟨#[]⟩]) 4 40 Try.underlying32 hi hz0 hz1 hz2 rfl (by decide) (.slice (some ⟨w.heap.size, 0, none⟩) 0 0) 0 [] rfl (World.ownsRow_lit _ #[] 0 (Nat.le_refl _) (Nat.zero_le _) (by simp)) ad l.length cap xs rfl HX.out.1.1 ?a2 HX.out.2.2 ?a4 ?a5 ?a6 ?_)
    case a2 =>
      intro j u hj
      have h1 := HX.out.2.1 j u hj
      rw [Go.RowKit.Below.cell ((Below.refl w.heap.size w).alloc (Nat.le_refl _) _) (cell_lt h1)]
      exact h1
    case a4 => unfold maxLen; omega
    case a5 => omega
    case a6 => simp
    intro v' w' hown hgrow hnil
    go_wp2_with fail
    go_ret
    refine ⟨v', xs, rfl, ?_, HX.out.1, ?_⟩
    · exact hown
    · exact Below.grown ((Below.refl _ _).alloc (Nat.le_refl _) _) hgrow (by simp) (by rintro k e; injection e with e; rw [← e]; exact Nat.le_refl _)

theorem info_in : (Try.prog.info? 24).map (fun i => (i.zero, i.size, i.bytes)) = some (some (.agg #[.int .i64 0, .int .i64 0, .int .i64 0, .int .i64 0, .int .i64 0, .int .i64 0, .int .i64 0, .string ⟨#[]⟩, .slice none 0 0]), 9, 96) := by kernel_rfl
set_option maxHeartbeats 1000000 in
set_option maxRecDepth 100000 in
theorem clone_in {α : Type} {P : Nat → Prop} {E : World → α → List Value → Prop} (hk : Row1 9 E) (v : Value) (l : List α) (w : World) (h : Hid (RdX P 9 E w v l)) (hby : l.length * 96 ≤ 140737488355328) :
    Calls Try.prog 62 #[v] w fun e w' => ∃ v' xs, e = .returned v' ∧ w'.ownsRow w.heap.size 24 9 v' l.length xs ∧ RowsE 9 (E w) l xs ∧ Below w.heap.size w w' := by
  obtain ⟨A, cap, rfl⟩ := h.out.shape
  have hlen := h.out.len
  obtain ⟨i0, hi, hz0, hz1, hz2⟩ := info_parts info_in
  cases A with
  | none =>
    have hl := h.out.none0.1
    subst hl
    have hq : ∀ w', (binOp .eql 31 (.slice none 0 cap) (.slice none 0 0)).run Try.prog w' = .ok (.bool true) w' := fun w' => by kernel_rfl
    go_enter Try.func62, Try.ntmps62
    go_wp2_with fail
    go_ret
    exact ⟨_, [], rfl, World.ownsRow_nil _ _ _ _, rowsE_nil _ _, Below.refl _ _⟩
  | some ad =>
    obtain ⟨xs, HX⟩ : ∃ xs, Hid (RowsE 9 (E w) l xs ∧ (∀ (j : Nat) u, xs[j]? = some u → w.cell? (ad.add j) = some u) ∧ ∀ u, u ∈ xs → u.oneCell' = true) := by
      obtain ⟨xs, hx⟩ := rdX_cells hk h.out
      exact ⟨xs, lhid hx⟩
    have hq : ∀ w', (binOp .eql 31 (.slice (some ad) l.length cap) (.slice none 0 0)).run Try.prog w' = .ok (.bool false) w' := fun w' => by kernel_rfl
    go_enter Try.func62, Try.ntmps62
    go_wp2_with (at_builtin; refine wpList_append_own _ rfl (.tmp 5) (.tmp 6) 31 rfl w.heap.size 24 i0 (.agg #[.int .i64 0, .int .i64 0, .int .i64 0, .int .i64 0, .int .i64 0, .int .i64 0, .int .i64 0, .string ⟨#[]⟩, .slice none 0 0]) 9 96 Try.underlying31 hi hz0 hz1 hz2 rfl (by decide) (.slice (some ⟨w.heap.size, 0, none⟩) 0 0) 0 [] rfl (World.ownsRow_lit _ #[] 0 (Nat.le_refl _) (Nat.zero_le _) (by simp)) ad l.length cap xs rfl HX.out.1.1 ?a2 HX.out.2.2 ?a4 ?a5 ?a6 ?_)
    case a2 =>
      intro j u hj
      have h1 := HX.out.2.1 j u hj
      rw [Go.RowKit.Below.cell ((Below.refl w.heap.size w).alloc (Nat.le_refl _) _) (cell_lt h1)]
      exact h1
    case a4 => unfold maxLen; omega
    case a5 => omega
    case a6 => simp
    intro v' w' hown hgrow hnil
    go_wp2_with fail
    go_ret
    refine ⟨v', xs, rfl, ?_, HX.out.1, ?_⟩
    · exact hown
    · exact Below.grown ((Below.refl _ _).alloc (Nat.le_refl _) _) hgrow (by simp) (by rintro k e; injection e with e; rw [← e]; exact Nat.le_refl _)
end Go.Proofs.Ythaijdcgmcfpiaa
