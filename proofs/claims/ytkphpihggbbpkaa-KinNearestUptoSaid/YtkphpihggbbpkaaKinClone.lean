/- slices.Clone at each type that package kin copies. -/
import Derived.Test.YtkphpihggbbpkaaKinMap
import Derived.Laws.AppendOwnNone
namespace Go.Proofs.Ytkphpihggbbpkaa
open Go.RowKit Go
set_option linter.unusedVariables false

/-- Rows of k cells, each cell a value of its own. -/
def Row1 {α : Type} (k : Nat) (E : World → α → List Value → Prop) : Prop := ∀ w a c, E w a c → c.length = k ∧ ∀ u, u ∈ c → u.oneCell' = true
theorem one_sl {α : Type} {P : Nat → Prop} {k : Nat} {E : World → α → List Value → Prop} {w : World} {v : Value} {l : List α} (h : RdX P k E w v l) : v.oneCell' = true := by
  obtain ⟨A, c, rfl⟩ := h.shape
  rfl
theorem row_st : Row1 1 StE := by rintro w a c rfl; simp [Value.oneCell']
theorem row_by : Row1 1 ByE := by rintro w a c rfl; simp [Value.oneCell']
theorem row_co : Row1 5 CoE := by rintro w a c rfl; simp [Value.oneCell']
theorem row_fl : Row1 3 FlE := by rintro w a c rfl; simp [Value.oneCell']
theorem row_rw : Row1 4 RwE := by rintro w a c rfl; simp [Value.oneCell']
theorem row_fr (P : Nat → Prop) : Row1 3 (FrE P) := by
  rintro w f c ⟨a, b, rfl, h1, h2⟩
  have e1 := one_sl h1
  have e2 := one_sl h2
  simp [e1, e2]
  rfl
theorem row_me (P : Nat → Prop) : Row1 8 (MeE P) := by
  rintro w m c ⟨a, b, d, rfl, h1, h2, h3⟩
  have e1 := one_sl h1
  have e2 := one_sl h2
  have e3 := one_sl h3
  simp [e1, e2, e3]
  simp [Value.oneCell']
theorem row_cl (P : Nat → Prop) : Row1 7 (ClE P) := by
  rintro w m c ⟨a, b, d, e, rfl, h1, h2, h3, h4⟩
  have e1 := one_sl h1
  have e2 := one_sl h2
  have e3 := one_sl h3
  have e4 := one_sl h4
  simp [e1, e2, e3, e4]
  simp [Value.oneCell']
/-- What a slice that can be read holds, as one list of cells. -/
theorem rdX_cells {α : Type} {P : Nat → Prop} {k : Nat} {E : World → α → List Value → Prop} (hk : Row1 k E) {w : World} {ad : Addr} {n cap : Nat} {l : List α} (h : RdX P k E w (.slice (some ad) n cap) l) :
    ∃ xs, RowsE k (E w) l xs ∧ (∀ (j : Nat) u, xs[j]? = some u → w.cell? (ad.add j) = some u) ∧ ∀ u, u ∈ xs → u.oneCell' = true := by
  cases l with
  | nil => exact ⟨[], rowsE_nil _ _, fun j u hj => by simp at hj, fun u hu => by simp at hu⟩
  | cons a0 r =>
    obtain ⟨g, o, c0, hA, _, hE0, _⟩ := h.at' (i := 0) (a := a0) rfl
    injection hA with hA
    subst hA
    obtain ⟨xs, h1, h2⟩ := rows_list (fun a c hc => (hk w a c hc).1) (fun j => w.cell? ⟨g, j, none⟩) (a0 :: r) o (fun i a hi => by
      obtain ⟨g', o', c, hA', _, h5, h6⟩ := h.at' hi
      injection hA' with hA'
      injection hA' with e1 e2
      subst e1
      subst e2
      exact ⟨c, h5, h6⟩)
    refine ⟨xs, h1, fun j u hj => by rw [addr_add]; exact h2 j u hj, fun u hu => ?_⟩
    obtain ⟨j, hj⟩ := List.getElem?_of_mem hu
    have hlen := (List.getElem?_eq_some_iff.1 hj).1
    have h0 := hk w a0 c0 hE0
    rw [h1.1] at hlen
    have hkpos : 0 < k := by
      rcases Nat.eq_zero_or_pos k with e | e
      · rw [e] at hlen; omega
      · exact e
    have hdiv : j / k < (a0 :: r).length := by rw [Nat.div_lt_iff_lt_mul hkpos]; exact hlen
    obtain ⟨c, h3, h4⟩ := h1.2 (j / k) _ (List.getElem?_eq_getElem hdiv)
    have hc := (hk w _ c h3)
    have hm : j % k < c.length := by rw [hc.1]; exact Nat.mod_lt _ hkpos
    have h5 := h4 (j % k) _ (List.getElem?_eq_getElem hm)
    rw [show j / k * k + j % k = j by rw [Nat.mul_comm]; exact Nat.div_add_mod j k, hj] at h5
    injection h5 with h5
    rw [h5]
    exact hc.2 _ (List.getElem_mem hm)

theorem info_st : (Try.prog.info? 9).map (fun i => (i.zero, i.size, i.bytes)) = some (some (.string ⟨#[]⟩), 1, 16) := by kernel_rfl
set_option maxHeartbeats 1000000 in
set_option maxRecDepth 100000 in
theorem clone_st {α : Type} {P : Nat → Prop} {E : World → α → List Value → Prop} (hk : Row1 1 E) (v : Value) (l : List α) (w : World) (h : Hid (RdX P 1 E w v l)) :
    Calls Try.prog 24 #[v] w fun e w' => ∃ v' xs, e = .returned v' ∧ w'.ownsRow w.heap.size 9 1 v' l.length xs ∧ RowsE 1 (E w) l xs ∧ Below w.heap.size w w' := by
  obtain ⟨A, cap, rfl⟩ := h.out.shape
  have hlen := h.out.len
  obtain ⟨i0, hi, hz0, hz1, hz2⟩ := info_parts info_st
  cases A with
  | none =>
    have hl := h.out.none0.1
    subst hl
    have hq : ∀ w', (binOp .eql 29 (.slice none 0 cap) (.slice none 0 0)).run Try.prog w' = .ok (.bool true) w' := fun w' => by kernel_rfl
    go_enter Try.func24, Try.ntmps24
    go_wp2_with fail
    go_ret
    exact ⟨_, [], rfl, World.ownsRow_nil _ _ _ _, rowsE_nil _ _, Below.refl _ _⟩
  | some ad =>
    obtain ⟨xs, HX⟩ : ∃ xs, Hid (RowsE 1 (E w) l xs ∧ (∀ (j : Nat) u, xs[j]? = some u → w.cell? (ad.add j) = some u) ∧ ∀ u, u ∈ xs → u.oneCell' = true) := by
      obtain ⟨xs, hx⟩ := rdX_cells hk h.out
      exact ⟨xs, lhid hx⟩
    have hq : ∀ w', (binOp .eql 29 (.slice (some ad) l.length cap) (.slice none 0 0)).run Try.prog w' = .ok (.bool false) w' := fun w' => by kernel_rfl
    go_enter Try.func24, Try.ntmps24
    go_wp2_with (at_builtin; refine wpList_append_own _ rfl (.tmp 5) (.tmp 6) 29 rfl w.heap.size 9 i0 (.string ⟨#[]⟩) 1 16 Try.underlying29 hi hz0 hz1 hz2 rfl (by decide) (.slice (some ⟨w.heap.size, 0, none⟩) 0 0) 0 [] rfl (World.ownsRow_lit _ #[] 0 (Nat.le_refl _) (Nat.zero_le _) (by simp)) ad l.length cap xs rfl HX.out.1.1 ?a2 HX.out.2.2 ?a4 ?a5 ?a6 ?_)
    case a2 =>
      intro j u hj
      have h1 := HX.out.2.1 j u hj
      rw [Go.RowKit.Below.cell ((Below.refl w.heap.size w).alloc (Nat.le_refl _) _) (cell_lt h1)]
      exact h1
    case a4 => unfold maxLen; omega
    case a5 => omega
    case a6 => simp
    intro v' w' hown hgrow hnil
    go_wp2_with fail
    go_ret
    refine ⟨v', xs, rfl, ?_, HX.out.1, ?_⟩
    · exact hown
    · exact Below.grown ((Below.refl _ _).alloc (Nat.le_refl _) _) hgrow (by simp) (by rintro k e; injection e with e; rw [← e]; exact Nat.le_refl _)

theorem info_co : (Try.prog.info? 87).map (fun i => (i.zero, i.size, i.bytes)) = some (some (.agg #[.int .i64 0, .int .i64 0, .string ⟨#[]⟩, .string ⟨#[]⟩, .string ⟨#[]⟩]), 5, 64) := by kernel_rfl
set_option maxHeartbeats 1000000 in
set_option maxRecDepth 100000 in
theorem clone_co {α : Type} {P : Nat → Prop} {E : World → α → List Value → Prop} (hk : Row1 5 E) (v : Value) (l : List α) (w : World) (h : Hid (RdX P 5 E w v l)) :
    Calls Try.prog 43 #[v] w fun e w' => ∃ v' xs, e = .returned v' ∧ w'.ownsRow w.heap.size 87 5 v' l.length xs ∧ RowsE 5 (E w) l xs ∧ Below w.heap.size w w' := by
  obtain ⟨A, cap, rfl⟩ := h.out.shape
  have hlen := h.out.len
  obtain ⟨i0, hi, hz0, hz1, hz2⟩ := info_parts info_co
  cases A with
  | none =>
    have hl := h.out.none0.1
    subst hl
    have hq : ∀ w', (binOp .eql 31 (.slice none 0 cap) (.slice none 0 0)).run Try.prog w' = .ok (.bool true) w' := fun w' => by kernel_rfl
    go_enter Try.func43, Try.ntmps43
    go_wp2_with fail
    go_ret
    exact ⟨_, [], rfl, World.ownsRow_nil _ _ _ _, rowsE_nil _ _, Below.refl _ _⟩
  | some ad =>
    obtain ⟨xs, HX⟩ : ∃ xs, Hid (RowsE 5 (E w) l xs ∧ (∀ (j : Nat) u, xs[j]? = some u → w.cell? (ad.add j) = some u) ∧ ∀ u, u ∈ xs → u.oneCell' = true) := by
      obtain ⟨xs, hx⟩ := rdX_cells hk h.out
      exact ⟨xs, lhid hx⟩
    have hq : ∀ w', (binOp .eql 31 (.slice (some ad) l.length cap) (.slice none 0 0)).run Try.prog w' = .ok (.bool false) w' := fun w' => by kernel_rfl
    go_enter Try.func43, Try.ntmps43
    go_wp2_with (at_builtin; refine wpList_append_own _ rfl (.tmp 5) (.tmp 6) 31 rfl w.heap.size 87 i0 (.agg #[.int .i64 0, .int .i64 0, .string ⟨#[]⟩, .string ⟨#[]⟩, .string ⟨#[]⟩]) 5 64 Try.underlying31 hi hz0 hz1 hz2 rfl (by decide) (.slice (some ⟨w.heap.size, 0, none⟩) 0 0) 0 [] rfl (World.ownsRow_lit _ #[] 0 (Nat.le_refl _) (Nat.zero_le _) (by simp)) ad l.length cap xs rfl HX.out.1.1 ?a2 HX.out.2.2 ?a4 ?a5 ?a6 ?_)
    case a2 =>
      intro j u hj
      have h1 := HX.out.2.1 j u hj
      rw [Go.RowKit.Below.cell ((Below.refl w.heap.size w).alloc (Nat.le_refl _) _) (cell_lt h1)]
      exact h1
    case a4 => unfold maxLen; omega
    case a5 => omega
    case a6 => simp
    intro v' w' hown hgrow hnil
    go_wp2_with fail
    go_ret
    refine ⟨v', xs, rfl, ?_, HX.out.1, ?_⟩
    · exact hown
    · exact Below.grown ((Below.refl _ _).alloc (Nat.le_refl _) _) hgrow (by simp) (by rintro k e; injection e with e; rw [← e]; exact Nat.le_refl _)

theorem info_fl : (Try.prog.info? 44).map (fun i => (i.zero, i.size, i.bytes)) = some (some (.agg #[.int .i64 0, .string ⟨#[]⟩, .string ⟨#[]⟩]), 3, 40) := by kernel_rfl
set_option maxHeartbeats 1000000 in
set_option maxRecDepth 100000 in
theorem clone_fl {α : Type} {P : Nat → Prop} {E : World → α → List Value → Prop} (hk : Row1 3 E) (v : Value) (l : List α) (w : World) (h : Hid (RdX P 3 E w v l)) :
    Calls Try.prog 44 #[v] w fun e w' => ∃ v' xs, e = .returned v' ∧ w'.ownsRow w.heap.size 44 3 v' l.length xs ∧ RowsE 3 (E w) l xs ∧ Below w.heap.size w w' := by
  obtain ⟨A, cap, rfl⟩ := h.out.shape
  have hlen := h.out.len
  obtain ⟨i0, hi, hz0, hz1, hz2⟩ := info_parts info_fl
  cases A with
  | none =>
    have hl := h.out.none0.1
    subst hl
    have hq : ∀ w', (binOp .eql 32 (.slice none 0 cap) (.slice none 0 0)).run Try.prog w' = .ok (.bool true) w' := fun w' => by kernel_rfl
    go_enter Try.func44, Try.ntmps44
    go_wp2_with fail
    go_ret
    exact ⟨_, [], rfl, World.ownsRow_nil _ _ _ _, rowsE_nil _ _, Below.refl _ _⟩
  | some ad =>
    obtain ⟨xs, HX⟩ : ∃ xs, Hid (RowsE 3 (E w) l xs ∧ (∀ (j : Nat) u, xs[j]? = some u → w.cell? (ad.add j) = some u) ∧ ∀ u, u ∈ xs → u.oneCell' = true) := by
      obtain ⟨xs, hx⟩ := rdX_cells hk h.out
      exact ⟨xs, lhid hx⟩
    have hq : ∀ w', (binOp .eql 32 (.slice (some ad) l.length cap) (.slice none 0 0)).run Try.prog w' = .ok (.bool false) w' := fun w' => by kernel_rfl
    go_enter Try.func44, Try.ntmps44
    go_wp2_with (at_builtin; refine wpList_append_own _ rfl (.tmp 5) (.tmp 6) 32 rfl w.heap.size 44 i0 (.agg #[.int .i64 0, .string ⟨#[]⟩, .string ⟨#[]⟩]) 3 40 Try.underlying32 hi hz0 hz1 hz2 rfl (by decide) (.slice (some ⟨w.heap.size, 0, none⟩) 0 0) 0 [] rfl (World.ownsRow_lit _ #[] 0 (Nat.le_refl _) (Nat.zero_le _) (by simp)) ad l.length cap xs rfl HX.out.1.1 ?a2 HX.out.2.2 ?a4 ?a5 ?a6 ?_)
    case a2 =>
      intro j u hj
      have h1 := HX.out.2.1 j u hj
      rw [Go.RowKit.Below.cell ((Below.refl w.heap.size w).alloc (Nat.le_refl _) _) (cell_lt h1)]
      exact h1
    case a4 => unfold maxLen; omega
    case a5 => omega
    case a6 => simp
    intro v' w' hown hgrow hnil
    go_wp2_with fail
    go_ret
    refine ⟨v', xs, rfl, ?_, HX.out.1, ?_⟩
    · exact hown
    · exact Below.grown ((Below.refl _ _).alloc (Nat.le_refl _) _) hgrow (by simp) (by rintro k e; injection e with e; rw [← e]; exact Nat.le_refl _)

theorem info_by : (Try.prog.info? 5).map (fun i => (i.zero, i.size, i.bytes)) = some (some (.int .u8 0), 1, 1) := by kernel_rfl
set_option maxHeartbeats 1000000 in
set_option maxRecDepth 100000 in
theorem clone_by {α : Type} {P : Nat → Prop} {E : World → α → List Value → Prop} (hk : Row1 1 E) (v : Value) (l : List α) (w : World) (h : Hid (RdX P 1 E w v l)) :
    Calls Try.prog 49 #[v] w fun e w' => ∃ v' xs, e = .returned v' ∧ w'.ownsRow w.heap.size 5 1 v' l.length xs ∧ RowsE 1 (E w) l xs ∧ Below w.heap.size w w' := by
  obtain ⟨A, cap, rfl⟩ := h.out.shape
  have hlen := h.out.len
  obtain ⟨i0, hi, hz0, hz1, hz2⟩ := info_parts info_by
  cases A with
  | none =>
    have hl := h.out.none0.1
    subst hl
    have hq : ∀ w', (binOp .eql 41 (.slice none 0 cap) (.slice none 0 0)).run Try.prog w' = .ok (.bool true) w' := fun w' => by kernel_rfl
    go_enter Try.func49, Try.ntmps49
    go_wp2_with fail
    go_ret
    exact ⟨_, [], rfl, World.ownsRow_nil _ _ _ _, rowsE_nil _ _, Below.refl _ _⟩
  | some ad =>
    obtain ⟨xs, HX⟩ : ∃ xs, Hid (RowsE 1 (E w) l xs ∧ (∀ (j : Nat) u, xs[j]? = some u → w.cell? (ad.add j) = some u) ∧ ∀ u, u ∈ xs → u.oneCell' = true) := by
      obtain ⟨xs, hx⟩ := rdX_cells hk h.out
      exact ⟨xs, lhid hx⟩
    have hq : ∀ w', (binOp .eql 41 (.slice (some ad) l.length cap) (.slice none 0 0)).run Try.prog w' = .ok (.bool false) w' := fun w' => by kernel_rfl
    go_enter Try.func49, Try.ntmps49
    go_wp2_with (at_builtin; refine wpList_append_own _ rfl (.tmp 5) (.tmp 6) 41 rfl w.heap.size 5 i0 (.int .u8 0) 1 1 Try.underlying41 hi hz0 hz1 hz2 rfl (by decide) (.slice (some ⟨w.heap.size, 0, none⟩) 0 0) 0 [] rfl (World.ownsRow_lit _ #[] 0 (Nat.le_refl _) (Nat.zero_le _) (by simp)) ad l.length cap xs rfl HX.out.1.1 ?a2 HX.out.2.2 ?a4 ?a5 ?a6 ?_)
    case a2 =>
      intro j u hj
      have h1 := HX.out.2.1 j u hj
      rw [Go.RowKit.Below.cell ((Below.refl w.heap.size w).alloc (Nat.le_refl _) _) (cell_lt h1)]
      exact h1
    case a4 => unfold maxLen; omega
    case a5 => omega
    case a6 => simp
    intro v' w' hown hgrow hnil
    go_wp2_with fail
    go_ret
    refine ⟨v', xs, rfl, ?_, HX.out.1, ?_⟩
    · exact hown
    · exact Below.grown ((Below.refl _ _).alloc (Nat.le_refl _) _) hgrow (by simp) (by rintro k e; injection e with e; rw [← e]; exact Nat.le_refl _)

theorem info_rw : (Try.prog.info? 98).map (fun i => (i.zero, i.size, i.bytes)) = some (some (.agg #[.int .i64 0, .int .i64 0, .int .i64 0, .string ⟨#[]⟩]), 4, 40) := by kernel_rfl
set_option maxHeartbeats 1000000 in
set_option maxRecDepth 100000 in
theorem clone_rw {α : Type} {P : Nat → Prop} {E : World → α → List Value → Prop} (hk : Row1 4 E) (v : Value) (l : List α) (w : World) (h : Hid (RdX P 4 E w v l)) :
    Calls Try.prog 50 #[v] w fun e w' => ∃ v' xs, e = .returned v' ∧ w'.ownsRow w.heap.size 98 4 v' l.length xs ∧ RowsE 4 (E w) l xs ∧ Below w.heap.size w w' := by
  obtain ⟨A, cap, rfl⟩ := h.out.shape
  have hlen := h.out.len
  obtain ⟨i0, hi, hz0, hz1, hz2⟩ := info_parts info_rw
  cases A with
  | none =>
    have hl := h.out.none0.1
    subst hl
    have hq : ∀ w', (binOp .eql 45 (.slice none 0 cap) (.slice none 0 0)).run Try.prog w' = .ok (.bool true) w' := fun w' => by kernel_rfl
    go_enter Try.func50, Try.ntmps50
    go_wp2_with fail
    go_ret
    exact ⟨_, [], rfl, World.ownsRow_nil _ _ _ _, rowsE_nil _ _, Below.refl _ _⟩
  | some ad =>
    obtain ⟨xs, HX⟩ : ∃ xs, Hid (RowsE 4 (E w) l xs ∧ (∀ (j : Nat) u, xs[j]? = some u → w.cell? (ad.add j) = some u) ∧ ∀ u, u ∈ xs → u.oneCell' = true) := by
      obtain ⟨xs, hx⟩ := rdX_cells hk h.out
      exact ⟨xs, lhid hx⟩
    have hq : ∀ w', (binOp .eql 45 (.slice (some ad) l.length cap) (.slice none 0 0)).run Try.prog w' = .ok (.bool false) w' := fun w' => by kernel_rfl
    go_enter Try.func50, Try.ntmps50
    go_wp2_with (at_builtin; refine wpList_append_own _ rfl (.tmp 5) (.tmp 6) 45 rfl w.heap.size 98 i0 (.agg #[.int .i64 0, .int .i64 0, .int .i64 0, .string ⟨#[]⟩]) 4 40 Try.underlying45 hi hz0 hz1 hz2 rfl (by decide) (.slice (some ⟨w.heap.size, 0, none⟩) 0 0) 0 [] rfl (World.ownsRow_lit _ #[] 0 (Nat.le_refl _) (Nat.zero_le _) (by simp)) ad l.length cap xs rfl HX.out.1.1 ?a2 HX.out.2.2 ?a4 ?a5 ?a6 ?_)
    case a2 =>
      intro j u hj
      have h1 := HX.out.2.1 j u hj
      rw [Go.RowKit.Below.cell ((Below.refl w.heap.size w).alloc (Nat.le_refl _) _) (cell_lt h1)]
      exact h1
    case a4 => unfold maxLen; omega
    case a5 => omega
    case a6 => simp
    intro v' w' hown hgrow hnil
    go_wp2_with fail
    go_ret
    refine ⟨v', xs, rfl, ?_, HX.out.1, ?_⟩
    · exact hown
    · exact Below.grown ((Below.refl _ _).alloc (Nat.le_refl _) _) hgrow (by simp) (by rintro k e; injection e with e; rw [← e]; exact Nat.le_refl _)

theorem info_me : (Try.prog.info? 48).map (fun i => (i.zero, i.size, i.bytes)) = some (some (.agg #[.int .i64 0, .string ⟨#[]⟩, .string ⟨#[]⟩, .int .i64 0, .int .i64 0, .slice none 0 0, .slice none 0 0, .slice none 0 0]), 8, 128) := by kernel_rfl
set_option maxHeartbeats 1000000 in
set_option maxRecDepth 100000 in
theorem clone_me {α : Type} {P : Nat → Prop} {E : World → α → List Value → Prop} (hk : Row1 8 E) (v : Value) (l : List α) (w : World) (h : Hid (RdX P 8 E w v l)) :
    Calls Try.prog 61 #[v] w fun e w' => ∃ v' xs, e = .returned v' ∧ w'.ownsRow w.heap.size 48 8 v' l.length xs ∧ RowsE 8 (E w) l xs ∧ Below w.heap.size w w' := by
  obtain ⟨A, cap, rfl⟩ := h.out.shape
  have hlen := h.out.len
  obtain ⟨i0, hi, hz0, hz1, hz2⟩ := info_parts info_me
  cases A with
  | none =>
    have hl := h.out.none0.1
    subst hl
    have hq : ∀ w', (binOp .eql 33 (.slice none 0 cap) (.slice none 0 0)).run Try.prog w' = .ok (.bool true) w' := fun w' => by kernel_rfl
    go_enter Try.func61, Try.ntmps61
    go_wp2_with fail
    go_ret
    exact ⟨_, [], rfl, World.ownsRow_nil _ _ _ _, rowsE_nil _ _, Below.refl _ _⟩
  | some ad =>
    obtain ⟨xs, HX⟩ : ∃ xs, Hid (RowsE 8 (E w) l xs ∧ (∀ (j : Nat) u, xs[j]? = some u → w.cell? (ad.add j) = some u) ∧ ∀ u, u ∈ xs → u.oneCell' = true) := by
      obtain ⟨xs, hx⟩ := rdX_cells hk h.out
      exact ⟨xs, lhid hx⟩
    have hq : ∀ w', (binOp .eql 33 (.slice (some ad) l.length cap) (.slice none 0 0)).run Try.prog w' = .ok (.bool false) w' := fun w' => by kernel_rfl
    go_enter Try.func61, Try.ntmps61
    go_wp2_with (at_builtin; refine wpList_append_own _ rfl (.tmp 5) (.tmp 6) 33 rfl w.heap.size 48 i0 (.agg #[.int .i64 0, .string ⟨#[]⟩, .string ⟨#[]⟩, .int .i64 0, .int .i64 0, .slice none 0 0, .slice none 0 0, .slice none 0 0]) 8 128 Try.underlying33 hi hz0 hz1 hz2 rfl (by decide) (.slice (some ⟨w.heap.size, 0, none⟩) 0 0) 0 [] rfl (World.ownsRow_lit _ #[] 0 (Nat.le_refl _) (Nat.zero_le _) (by simp)) ad l.length cap xs rfl HX.out.1.1 ?a2 HX.out.2.2 ?a4 ?a5 ?a6 ?_)
    case a2 =>
      intro j u hj
      have h1 := HX.out.2.1 j u hj
      rw [Go.RowKit.Below.cell ((Below.refl w.heap.size w).alloc (Nat.le_refl _) _) (cell_lt h1)]
      exact h1
    case a4 => unfold maxLen; omega
    case a5 => omega
    case a6 => simp
    intro v' w' hown hgrow hnil
    go_wp2_with fail
    go_ret
    refine ⟨v', xs, rfl, ?_, HX.out.1, ?_⟩
    · exact hown
    · exact Below.grown ((Below.refl _ _).alloc (Nat.le_refl _) _) hgrow (by simp) (by rintro k e; injection e with e; rw [← e]; exact Nat.le_refl _)

theorem info_fr : (Try.prog.info? 101).map (fun i => (i.zero, i.size, i.bytes)) = some (some (.agg #[.int .i64 0, .slice none 0 0, .slice none 0 0]), 3, 56) := by kernel_rfl
set_option maxHeartbeats 1000000 in
set_option maxRecDepth 100000 in
theorem clone_fr {α : Type} {P : Nat → Prop} {E : World → α → List Value → Prop} (hk : Row1 3 E) (v : Value) (l : List α) (w : World) (h : Hid (RdX P 3 E w v l)) :
    Calls Try.prog 73 #[v] w fun e w' => ∃ v' xs, e = .returned v' ∧ w'.ownsRow w.heap.size 101 3 v' l.length xs ∧ RowsE 3 (E w) l xs ∧ Below w.heap.size w w' := by
  obtain ⟨A, cap, rfl⟩ := h.out.shape
  have hlen := h.out.len
  obtain ⟨i0, hi, hz0, hz1, hz2⟩ := info_parts info_fr
  cases A with
  | none =>
    have hl := h.out.none0.1
    subst hl
    have hq : ∀ w', (binOp .eql 46 (.slice none 0 cap) (.slice none 0 0)).run Try.prog w' = .ok (.bool true) w' := fun w' => by kernel_rfl
    go_enter Try.func73, Try.ntmps73
    go_wp2_with fail
    go_ret
    exact ⟨_, [], rfl, World.ownsRow_nil _ _ _ _, rowsE_nil _ _, Below.refl _ _⟩
  | some ad =>
    obtain ⟨xs, HX⟩ : ∃ xs, Hid (RowsE 3 (E w) l xs ∧ (∀ (j : Nat) u, xs[j]? = some u → w.cell? (ad.add j) = some u) ∧ ∀ u, u ∈ xs → u.oneCell' = true) := by
      obtain ⟨xs, hx⟩ := rdX_cells hk h.out
      exact ⟨xs, lhid hx⟩
    have hq : ∀ w', (binOp .eql 46 (.slice (some ad) l.length cap) (.slice none 0 0)).run Try.prog w' = .ok (.bool false) w' := fun w' => by kernel_rfl
    go_enter Try.func73, Try.ntmps73
    go_wp2_with (at_builtin; refine wpList_append_own _ rfl (.tmp 5) (.tmp 6) 46 rfl w.heap.size 101 i0 (.agg #[.int .i64 0, .slice none 0 0, .slice none 0 0]) 3 56 Try.underlying46 hi hz0 hz1 hz2 rfl (by decide) (.slice (some ⟨w.heap.size, 0, none⟩) 0 0) 0 [] rfl (World.ownsRow_lit _ #[] 0 (Nat.le_refl _) (Nat.zero_le _) (by simp)) ad l.length cap xs rfl HX.out.1.1 ?a2 HX.out.2.2 ?a4 ?a5 ?a6 ?_)
    case a2 =>
      intro j u hj
      have h1 := HX.out.2.1 j u hj
      rw [Go.RowKit.Below.cell ((Below.refl w.heap.size w).alloc (Nat.le_refl _) _) (cell_lt h1)]
      exact h1
    case a4 => unfold maxLen; omega
    case a5 => omega
    case a6 => simp
    intro v' w' hown hgrow hnil
    go_wp2_with fail
    go_ret
    refine ⟨v', xs, rfl, ?_, HX.out.1, ?_⟩
    · exact hown
    · exact Below.grown ((Below.refl _ _).alloc (Nat.le_refl _) _) hgrow (by simp) (by rintro k e; injection e with e; rw [← e]; exact Nat.le_refl _)

set_option maxRecDepth 100000 in
/-- 'append' of what can be read to a list of the call's own. -/
theorem wpList_append_rd {ops : Array Oper} {rest : List Oper} {o : Oper} {a : Act} {w : World} {Q : Exit → Act → World → Prop} (hgd : o.guard = none) (s x : Operand) (t : TypeId)
    (ho : o.op = .call { callee := .builtin .append, args := #[s, x], argTypes := #[t, t] })
    (base : Nat) (e : TypeId) (i : TypeInfo) (z : Value) (size bytes : Nat) (ht : Try.prog.underlying t = some (.slice e)) (hi : Try.prog.info? e = some i) (hz : i.zero = some z)
    (hsize : i.size = size) (hby : i.bytes = bytes) (hzs : z.cells.size = size) (hsz : 0 < size)
    (v : Value) (n : Nat) (xs : List Value) (hs : a.eval s = v) (hown : w.ownsRow base e size v n xs)
    {α : Type} {P : Nat → Prop} {E : World → α → List Value → Prop} (hk : Row1 size E) (v2 : Value) (l2 : List α) (hx : a.eval x = v2) (h2 : RdX P size E w v2 l2)
    (hb : n + l2.length ≤ 8589934592) (hby2 : bytes ≤ 136) (hbase : base ≤ w.heap.size)
    (h : ∀ v' w' ys, w'.ownsRow base e size v' (n + l2.length) (xs ++ ys) → RowsE size (E w) l2 ys → w.grownBy w' v.ownBlock → wpList Try.prog ops Q rest (a.put o.dst v') w') : wpList Try.prog ops Q (o :: rest) a w := by
  obtain ⟨A, cap, rfl⟩ := h2.shape
  cases A with
  | none =>
    obtain ⟨rfl, _, rfl⟩ := h2.none0
    refine wpList_append_own_none hgd s x t ho base e i size ht hi v n xs hs hown hx (h v w [] (by simpa using hown) (rowsE_nil _ _) ?_)
    exact ⟨rfl, rfl, rfl, Nat.le_refl _, fun _ _ _ => rfl⟩
  | some ad =>
    obtain ⟨ys, h3, h4, h5⟩ := rdX_cells hk h2
    have h6 : (n + l2.length) * bytes ≤ 8589934592 * 136 := Nat.mul_le_mul hb hby2
    refine wpList_append_own w hgd s x t ho base e i z size bytes ht hi hz hsize hby hzs hsz v n xs hs hown ad l2.length cap ys hx h3.1 h4 h5 (by unfold maxLen; omega) (by omega) hbase (fun v' w' r1 r2 _ => h v' w' ys r1 h3 r2)
end Go.Proofs.Ytkphpihggbbpkaa
