/- Texts of this claim, joined: KinClone, KinName. -/
import Derived.Test.YtpdnonlelocfbaaGreatDoorJKinMap
import Derived.Laws.AppendOwnNone
import Derived.Deep.MidRow
/- slices.Clone at each type that package kin copies. -/
namespace Go.Proofs.YtpdnonlelocfbaaGreatDoor
open Go.RowKit Go
set_option linter.unusedVariables false

/-- Rows of k cells, each cell a value of its own. -/
def Row1 {α : Type} (k : Nat) (E : World → α → List Value → Prop) : Prop := ∀ w a c, E w a c → c.length = k ∧ ∀ u, u ∈ c → u.oneCell' = true
theorem one_sl {α : Type} {P : Nat → Prop} {k : Nat} {E : World → α → List Value → Prop} {w : World} {v : Value} {l : List α} (h : RdX P k E w v l) : v.oneCell' = true := by
  obtain ⟨A, c, rfl⟩ := h.shape
  rfl
theorem row_st : Row1 1 StE := by rintro w a c rfl; simp [Value.oneCell']
theorem row_by : Row1 1 ByE := by rintro w a c rfl; simp [Value.oneCell']
theorem row_co : Row1 5 CoE := by rintro w a c rfl; simp [Value.oneCell']
theorem row_fl : Row1 3 FlE := by rintro w a c rfl; simp [Value.oneCell']
theorem row_rw : Row1 4 RwE := by rintro w a c rfl; simp [Value.oneCell']
theorem row_fr (P : Nat → Prop) : Row1 3 (FrE P) := by
  rintro w f c ⟨a, b, rfl, h1, h2⟩
  have e1 := one_sl h1
  have e2 := one_sl h2
  simp [e1, e2]
  rfl
theorem row_me (P : Nat → Prop) : Row1 8 (MeE P) := by
  rintro w m c ⟨a, b, d, rfl, h1, h2, h3⟩
  have e1 := one_sl h1
  have e2 := one_sl h2
  have e3 := one_sl h3
  simp [e1, e2, e3]
  simp [Value.oneCell']
theorem row_cl (P : Nat → Prop) : Row1 7 (ClE P) := by
  rintro w m c ⟨a, b, d, e, rfl, h1, h2, h3, h4⟩
  have e1 := one_sl h1
  have e2 := one_sl h2
  have e3 := one_sl h3
  have e4 := one_sl h4
  simp [e1, e2, e3, e4]
  simp [Value.oneCell']
/-- What a slice that can be read holds, as one list of cells. -/
theorem rdX_cells {α : Type} {P : Nat → Prop} {k : Nat} {E : World → α → List Value → Prop} (hk : Row1 k E) {w : World} {ad : Addr} {n cap : Nat} {l : List α} (h : RdX P k E w (.slice (some ad) n cap) l) :
    ∃ xs, RowsE k (E w) l xs ∧ (∀ (j : Nat) u, xs[j]? = some u → w.cell? (ad.add j) = some u) ∧ ∀ u, u ∈ xs → u.oneCell' = true := by
  cases l with
  | nil => exact ⟨[], rowsE_nil _ _, fun j u hj => by simp at hj, fun u hu => by simp at hu⟩
  | cons a0 r =>
    obtain ⟨g, o, c0, hA, _, hE0, _⟩ := h.at' (i := 0) (a := a0) rfl
    injection hA with hA
    subst hA
    obtain ⟨xs, h1, h2⟩ := rows_list (fun a c hc => (hk w a c hc).1) (fun j => w.cell? ⟨g, j, none⟩) (a0 :: r) o (fun i a hi => by
      obtain ⟨g', o', c, hA', _, h5, h6⟩ := h.at' hi
      injection hA' with hA'
      injection hA' with e1 e2
      subst e1
      subst e2
      exact ⟨c, h5, h6⟩)
    refine ⟨xs, h1, fun j u hj => by rw [addr_add]; exact h2 j u hj, fun u hu => ?_⟩
    obtain ⟨j, hj⟩ := List.getElem?_of_mem hu
    have hlen := (List.getElem?_eq_some_iff.1 hj).1
    have h0 := hk w a0 c0 hE0
    rw [h1.1] at hlen
    have hkpos : 0 < k := by
      rcases Nat.eq_zero_or_pos k with e | e
      · rw [e] at hlen; omega
      · exact e
    have hdiv : j / k < (a0 :: r).length := by rw [Nat.div_lt_iff_lt_mul hkpos]; exact hlen
    obtain ⟨c, h3, h4⟩ := h1.2 (j / k) _ (List.getElem?_eq_getElem hdiv)
    have hc := (hk w _ c h3)
    have hm : j % k < c.length := by rw [hc.1]; exact Nat.mod_lt _ hkpos
    have h5 := h4 (j % k) _ (List.getElem?_eq_getElem hm)
    rw [show j / k * k + j % k = j by rw [Nat.mul_comm]; exact Nat.div_add_mod j k, hj] at h5
    injection h5 with h5
    rw [h5]
    exact hc.2 _ (List.getElem_mem hm)

theorem info_st : (Tryz.prog.info? 9).map (fun i => (i.zero, i.size, i.bytes)) = some (some (.string ⟨#[]⟩), 1, 16) := by kernel_rfl
set_option maxHeartbeats 1000000 in
set_option maxRecDepth 100000 in
theorem clone_st {α : Type} {P : Nat → Prop} {E : World → α → List Value → Prop} (hk : Row1 1 E) (v : Value) (l : List α) (w : World) (h : Hid (RdX P 1 E w v l)) :
    Calls Tryz.prog 64 #[v] w fun e w' => ∃ v' xs, e = .returned v' ∧ w'.ownsRow w.heap.size 9 1 v' l.length xs ∧ RowsE 1 (E w) l xs ∧ Below w.heap.size w w' := by
  obtain ⟨A, cap, rfl⟩ := h.out.shape
  have hlen := h.out.len
  obtain ⟨i0, hi, hz0, hz1, hz2⟩ := info_parts info_st
  cases A with
  | none =>
    have hl := h.out.none0.1
    subst hl
    have hq : ∀ w', (binOp .eql 34 (.slice none 0 cap) (.slice none 0 0)).run Tryz.prog w' = .ok (.bool true) w' := fun w' => by kernel_rfl
    go_enter Tryz.func64, Tryz.ntmps64
    go_wp2_with fail
    go_ret
    exact ⟨_, [], rfl, World.ownsRow_nil _ _ _ _, rowsE_nil _ _, Below.refl _ _⟩
  | some ad =>
    obtain ⟨xs, HX⟩ : ∃ xs, Hid (RowsE 1 (E w) l xs ∧ (∀ (j : Nat) u, xs[j]? = some u → w.cell? (ad.add j) = some u) ∧ ∀ u, u ∈ xs → u.oneCell' = true) := by
      obtain ⟨xs, hx⟩ := rdX_cells hk h.out
      exact ⟨xs, lhid hx⟩
    have hq : ∀ w', (binOp .eql 34 (.slice (some ad) l.length cap) (.slice none 0 0)).run Tryz.prog w' = .ok (.bool false) w' := fun w' => by kernel_rfl
    go_enter Tryz.func64, Tryz.ntmps64
    go_wp2_with (at_builtin; refine wpList_append_own _ rfl (.tmp 5) (.tmp 6) 34 rfl w.heap.size 9 i0 (.string ⟨#[]⟩) 1 16 Tryz.underlying34 hi hz0 hz1 hz2 rfl (by decide) (.slice (some ⟨w.heap.size, 0, none⟩) 0 0) 0 [] rfl (World.ownsRow_lit _ #[] 0 (Nat.le_refl _) (Nat.zero_le _) (by simp)) ad l.length cap xs rfl HX.out.1.1 ?a2 HX.out.2.2 ?a4 ?a5 ?a6 ?_)
    case a2 =>
      intro j u hj
      have h1 := HX.out.2.1 j u hj
      rw [Go.RowKit.Below.cell ((Below.refl w.heap.size w).alloc (Nat.le_refl _) _) (cell_lt h1)]
      exact h1
    case a4 => unfold maxLen; omega
    case a5 => omega
    case a6 => simp
    intro v' w' hown hgrow hnil
    go_wp2_with fail
    go_ret
    refine ⟨v', xs, rfl, ?_, HX.out.1, ?_⟩
    · exact hown
    · exact Below.grown ((Below.refl _ _).alloc (Nat.le_refl _) _) hgrow (by simp) (by rintro k e; injection e with e; rw [← e]; exact Nat.le_refl _)

theorem info_co : (Tryz.prog.info? 213).map (fun i => (i.zero, i.size, i.bytes)) = some (some (.agg #[.int .i64 0, .int .i64 0, .string ⟨#[]⟩, .string ⟨#[]⟩, .string ⟨#[]⟩]), 5, 64) := by kernel_rfl
set_option maxHeartbeats 1000000 in
set_option maxRecDepth 100000 in
theorem clone_co {α : Type} {P : Nat → Prop} {E : World → α → List Value → Prop} (hk : Row1 5 E) (v : Value) (l : List α) (w : World) (h : Hid (RdX P 5 E w v l)) :
    Calls Tryz.prog 131 #[v] w fun e w' => ∃ v' xs, e = .returned v' ∧ w'.ownsRow w.heap.size 213 5 v' l.length xs ∧ RowsE 5 (E w) l xs ∧ Below w.heap.size w w' := by
  obtain ⟨A, cap, rfl⟩ := h.out.shape
  have hlen := h.out.len
  obtain ⟨i0, hi, hz0, hz1, hz2⟩ := info_parts info_co
  cases A with
  | none =>
    have hl := h.out.none0.1
    subst hl
    have hq : ∀ w', (binOp .eql 35 (.slice none 0 cap) (.slice none 0 0)).run Tryz.prog w' = .ok (.bool true) w' := fun w' => by kernel_rfl
    go_enter Tryz.func131, Tryz.ntmps131
    go_wp2_with fail
    go_ret
    exact ⟨_, [], rfl, World.ownsRow_nil _ _ _ _, rowsE_nil _ _, Below.refl _ _⟩
  | some ad =>
    obtain ⟨xs, HX⟩ : ∃ xs, Hid (RowsE 5 (E w) l xs ∧ (∀ (j : Nat) u, xs[j]? = some u → w.cell? (ad.add j) = some u) ∧ ∀ u, u ∈ xs → u.oneCell' = true) := by
      obtain ⟨xs, hx⟩ := rdX_cells hk h.out
      exact ⟨xs, lhid hx⟩
    have hq : ∀ w', (binOp .eql 35 (.slice (some ad) l.length cap) (.slice none 0 0)).run Tryz.prog w' = .ok (.bool false) w' := fun w' => by kernel_rfl
    go_enter Tryz.func131, Tryz.ntmps131
    go_wp2_with (at_builtin; refine wpList_append_own _ rfl (.tmp 5) (.tmp 6) 35 rfl w.heap.size 213 i0 (.agg #[.int .i64 0, .int .i64 0, .string ⟨#[]⟩, .string ⟨#[]⟩, .string ⟨#[]⟩]) 5 64 Tryz.underlying35 hi hz0 hz1 hz2 rfl (by decide) (.slice (some ⟨w.heap.size, 0, none⟩) 0 0) 0 [] rfl (World.ownsRow_lit _ #[] 0 (Nat.le_refl _) (Nat.zero_le _) (by simp)) ad l.length cap xs rfl HX.out.1.1 ?a2 HX.out.2.2 ?a4 ?a5 ?a6 ?_)
    case a2 =>
      intro j u hj
      have h1 := HX.out.2.1 j u hj
      rw [Go.RowKit.Below.cell ((Below.refl w.heap.size w).alloc (Nat.le_refl _) _) (cell_lt h1)]
      exact h1
    case a4 => unfold maxLen; omega
    case a5 => omega
    case a6 => simp
    intro v' w' hown hgrow hnil
    go_wp2_with fail
    go_ret
    refine ⟨v', xs, rfl, ?_, HX.out.1, ?_⟩
    · exact hown
    · exact Below.grown ((Below.refl _ _).alloc (Nat.le_refl _) _) hgrow (by simp) (by rintro k e; injection e with e; rw [← e]; exact Nat.le_refl _)

theorem info_fl : (Tryz.prog.info? 91).map (fun i => (i.zero, i.size, i.bytes)) = some (some (.agg #[.int .i64 0, .string ⟨#[]⟩, .string ⟨#[]⟩]), 3, 40) := by kernel_rfl
set_option maxHeartbeats 1000000 in
set_option maxRecDepth 100000 in
theorem clone_fl {α : Type} {P : Nat → Prop} {E : World → α → List Value → Prop} (hk : Row1 3 E) (v : Value) (l : List α) (w : World) (h : Hid (RdX P 3 E w v l)) :
    Calls Tryz.prog 132 #[v] w fun e w' => ∃ v' xs, e = .returned v' ∧ w'.ownsRow w.heap.size 91 3 v' l.length xs ∧ RowsE 3 (E w) l xs ∧ Below w.heap.size w w' := by
  obtain ⟨A, cap, rfl⟩ := h.out.shape
  have hlen := h.out.len
  obtain ⟨i0, hi, hz0, hz1, hz2⟩ := info_parts info_fl
  cases A with
  | none =>
    have hl := h.out.none0.1
    subst hl
    have hq : ∀ w', (binOp .eql 36 (.slice none 0 cap) (.slice none 0 0)).run Tryz.prog w' = .ok (.bool true) w' := fun w' => by kernel_rfl
    go_enter Tryz.func132, Tryz.ntmps132
    go_wp2_with fail
    go_ret
    exact ⟨_, [], rfl, World.ownsRow_nil _ _ _ _, rowsE_nil _ _, Below.refl _ _⟩
  | some ad =>
    obtain ⟨xs, HX⟩ : ∃ xs, Hid (RowsE 3 (E w) l xs ∧ (∀ (j : Nat) u, xs[j]? = some u → w.cell? (ad.add j) = some u) ∧ ∀ u, u ∈ xs → u.oneCell' = true) := by
      obtain ⟨xs, hx⟩ := rdX_cells hk h.out
      exact ⟨xs, lhid hx⟩
    have hq : ∀ w', (binOp .eql 36 (.slice (some ad) l.length cap) (.slice none 0 0)).run Tryz.prog w' = .ok (.bool false) w' := fun w' => by kernel_rfl
    go_enter Tryz.func132, Tryz.ntmps132
    go_wp2_with (at_builtin; refine wpList_append_own _ rfl (.tmp 5) (.tmp 6) 36 rfl w.heap.size 91 i0 (.agg #[.int .i64 0, .string ⟨#[]⟩, .string ⟨#[]⟩]) 3 40 Tryz.underlying36 hi hz0 hz1 hz2 rfl (by decide) (.slice (some ⟨w.heap.size, 0, none⟩) 0 0) 0 [] rfl (World.ownsRow_lit _ #[] 0 (Nat.le_refl _) (Nat.zero_le _) (by simp)) ad l.length cap xs rfl HX.out.1.1 ?a2 HX.out.2.2 ?a4 ?a5 ?a6 ?_)
    case a2 =>
      intro j u hj
      have h1 := HX.out.2.1 j u hj
      rw [Go.RowKit.Below.cell ((Below.refl w.heap.size w).alloc (Nat.le_refl _) _) (cell_lt h1)]
      exact h1
    case a4 => unfold maxLen; omega
    case a5 => omega
    case a6 => simp
    intro v' w' hown hgrow hnil
    go_wp2_with fail
    go_ret
    refine ⟨v', xs, rfl, ?_, HX.out.1, ?_⟩
    · exact hown
    · exact Below.grown ((Below.refl _ _).alloc (Nat.le_refl _) _) hgrow (by simp) (by rintro k e; injection e with e; rw [← e]; exact Nat.le_refl _)

theorem info_by : (Tryz.prog.info? 5).map (fun i => (i.zero, i.size, i.bytes)) = some (some (.int .u8 0), 1, 1) := by kernel_rfl
set_option maxHeartbeats 1000000 in
set_option maxRecDepth 100000 in
theorem clone_by {α : Type} {P : Nat → Prop} {E : World → α → List Value → Prop} (hk : Row1 1 E) (v : Value) (l : List α) (w : World) (h : Hid (RdX P 1 E w v l)) :
    Calls Tryz.prog 134 #[v] w fun e w' => ∃ v' xs, e = .returned v' ∧ w'.ownsRow w.heap.size 5 1 v' l.length xs ∧ RowsE 1 (E w) l xs ∧ Below w.heap.size w w' := by
  obtain ⟨A, cap, rfl⟩ := h.out.shape
  have hlen := h.out.len
  obtain ⟨i0, hi, hz0, hz1, hz2⟩ := info_parts info_by
  cases A with
  | none =>
    have hl := h.out.none0.1
    subst hl
    have hq : ∀ w', (binOp .eql 23 (.slice none 0 cap) (.slice none 0 0)).run Tryz.prog w' = .ok (.bool true) w' := fun w' => by kernel_rfl
    go_enter Tryz.func134, Tryz.ntmps134
    go_wp2_with fail
    go_ret
    exact ⟨_, [], rfl, World.ownsRow_nil _ _ _ _, rowsE_nil _ _, Below.refl _ _⟩
  | some ad =>
    obtain ⟨xs, HX⟩ : ∃ xs, Hid (RowsE 1 (E w) l xs ∧ (∀ (j : Nat) u, xs[j]? = some u → w.cell? (ad.add j) = some u) ∧ ∀ u, u ∈ xs → u.oneCell' = true) := by
      obtain ⟨xs, hx⟩ := rdX_cells hk h.out
      exact ⟨xs, lhid hx⟩
    have hq : ∀ w', (binOp .eql 23 (.slice (some ad) l.length cap) (.slice none 0 0)).run Tryz.prog w' = .ok (.bool false) w' := fun w' => by kernel_rfl
    go_enter Tryz.func134, Tryz.ntmps134
    go_wp2_with (at_builtin; refine wpList_append_own _ rfl (.tmp 5) (.tmp 6) 23 rfl w.heap.size 5 i0 (.int .u8 0) 1 1 Tryz.underlying23 hi hz0 hz1 hz2 rfl (by decide) (.slice (some ⟨w.heap.size, 0, none⟩) 0 0) 0 [] rfl (World.ownsRow_lit _ #[] 0 (Nat.le_refl _) (Nat.zero_le _) (by simp)) ad l.length cap xs rfl HX.out.1.1 ?a2 HX.out.2.2 ?a4 ?a5 ?a6 ?_)
    case a2 =>
      intro j u hj
      have h1 := HX.out.2.1 j u hj
      rw [Go.RowKit.Below.cell ((Below.refl w.heap.size w).alloc (Nat.le_refl _) _) (cell_lt h1)]
      exact h1
    case a4 => unfold maxLen; omega
    case a5 => omega
    case a6 => simp
    intro v' w' hown hgrow hnil
    go_wp2_with fail
    go_ret
    refine ⟨v', xs, rfl, ?_, HX.out.1, ?_⟩
    · exact hown
    · exact Below.grown ((Below.refl _ _).alloc (Nat.le_refl _) _) hgrow (by simp) (by rintro k e; injection e with e; rw [← e]; exact Nat.le_refl _)

theorem info_rw : (Tryz.prog.info? 184).map (fun i => (i.zero, i.size, i.bytes)) = some (some (.agg #[.int .i64 0, .int .i64 0, .int .i64 0, .string ⟨#[]⟩]), 4, 40) := by kernel_rfl
set_option maxHeartbeats 1000000 in
set_option maxRecDepth 100000 in
theorem clone_rw {α : Type} {P : Nat → Prop} {E : World → α → List Value → Prop} (hk : Row1 4 E) (v : Value) (l : List α) (w : World) (h : Hid (RdX P 4 E w v l)) :
    Calls Tryz.prog 135 #[v] w fun e w' => ∃ v' xs, e = .returned v' ∧ w'.ownsRow w.heap.size 184 4 v' l.length xs ∧ RowsE 4 (E w) l xs ∧ Below w.heap.size w w' := by
  obtain ⟨A, cap, rfl⟩ := h.out.shape
  have hlen := h.out.len
  obtain ⟨i0, hi, hz0, hz1, hz2⟩ := info_parts info_rw
  cases A with
  | none =>
    have hl := h.out.none0.1
    subst hl
    have hq : ∀ w', (binOp .eql 24 (.slice none 0 cap) (.slice none 0 0)).run Tryz.prog w' = .ok (.bool true) w' := fun w' => by kernel_rfl
    go_enter Tryz.func135, Tryz.ntmps135
    go_wp2_with fail
    go_ret
    exact ⟨_, [], rfl, World.ownsRow_nil _ _ _ _, rowsE_nil _ _, Below.refl _ _⟩
  | some ad =>
    obtain ⟨xs, HX⟩ : ∃ xs, Hid (RowsE 4 (E w) l xs ∧ (∀ (j : Nat) u, xs[j]? = some u → w.cell? (ad.add j) = some u) ∧ ∀ u, u ∈ xs → u.oneCell' = true) := by
      obtain ⟨xs, hx⟩ := rdX_cells hk h.out
      exact ⟨xs, lhid hx⟩
    have hq : ∀ w', (binOp .eql 24 (.slice (some ad) l.length cap) (.slice none 0 0)).run Tryz.prog w' = .ok (.bool false) w' := fun w' => by kernel_rfl
    go_enter Tryz.func135, Tryz.ntmps135
    go_wp2_with (at_builtin; refine wpList_append_own _ rfl (.tmp 5) (.tmp 6) 24 rfl w.heap.size 184 i0 (.agg #[.int .i64 0, .int .i64 0, .int .i64 0, .string ⟨#[]⟩]) 4 40 Tryz.underlying24 hi hz0 hz1 hz2 rfl (by decide) (.slice (some ⟨w.heap.size, 0, none⟩) 0 0) 0 [] rfl (World.ownsRow_lit _ #[] 0 (Nat.le_refl _) (Nat.zero_le _) (by simp)) ad l.length cap xs rfl HX.out.1.1 ?a2 HX.out.2.2 ?a4 ?a5 ?a6 ?_)
    case a2 =>
      intro j u hj
      have h1 := HX.out.2.1 j u hj
      rw [Go.RowKit.Below.cell ((Below.refl w.heap.size w).alloc (Nat.le_refl _) _) (cell_lt h1)]
      exact h1
    case a4 => unfold maxLen; omega
    case a5 => omega
    case a6 => simp
    intro v' w' hown hgrow hnil
    go_wp2_with fail
    go_ret
    refine ⟨v', xs, rfl, ?_, HX.out.1, ?_⟩
    · exact hown
    · exact Below.grown ((Below.refl _ _).alloc (Nat.le_refl _) _) hgrow (by simp) (by rintro k e; injection e with e; rw [← e]; exact Nat.le_refl _)

theorem info_me : (Tryz.prog.info? 27).map (fun i => (i.zero, i.size, i.bytes)) = some (some (.agg #[.int .i64 0, .string ⟨#[]⟩, .string ⟨#[]⟩, .int .i64 0, .int .i64 0, .slice none 0 0, .slice none 0 0, .slice none 0 0]), 8, 128) := by kernel_rfl
set_option maxHeartbeats 1000000 in
set_option maxRecDepth 100000 in
theorem clone_me {α : Type} {P : Nat → Prop} {E : World → α → List Value → Prop} (hk : Row1 8 E) (v : Value) (l : List α) (w : World) (h : Hid (RdX P 8 E w v l)) :
    Calls Tryz.prog 201 #[v] w fun e w' => ∃ v' xs, e = .returned v' ∧ w'.ownsRow w.heap.size 27 8 v' l.length xs ∧ RowsE 8 (E w) l xs ∧ Below w.heap.size w w' := by
  obtain ⟨A, cap, rfl⟩ := h.out.shape
  have hlen := h.out.len
  obtain ⟨i0, hi, hz0, hz1, hz2⟩ := info_parts info_me
  cases A with
  | none =>
    have hl := h.out.none0.1
    subst hl
    have hq : ∀ w', (binOp .eql 37 (.slice none 0 cap) (.slice none 0 0)).run Tryz.prog w' = .ok (.bool true) w' := fun w' => by kernel_rfl
    go_enter Tryz.func201, Tryz.ntmps201
    go_wp2_with fail
    go_ret
    exact ⟨_, [], rfl, World.ownsRow_nil _ _ _ _, rowsE_nil _ _, Below.refl _ _⟩
  | some ad =>
    obtain ⟨xs, HX⟩ : ∃ xs, Hid (RowsE 8 (E w) l xs ∧ (∀ (j : Nat) u, xs[j]? = some u → w.cell? (ad.add j) = some u) ∧ ∀ u, u ∈ xs → u.oneCell' = true) := by
      obtain ⟨xs, hx⟩ := rdX_cells hk h.out
      exact ⟨xs, lhid hx⟩
    have hq : ∀ w', (binOp .eql 37 (.slice (some ad) l.length cap) (.slice none 0 0)).run Tryz.prog w' = .ok (.bool false) w' := fun w' => by kernel_rfl
    go_enter Tryz.func201, Tryz.ntmps201
    go_wp2_with (at_builtin; refine wpList_append_own _ rfl (.tmp 5) (.tmp 6) 37 rfl w.heap.size 27 i0 (.agg #[.int .i64 0, .string ⟨#[]⟩, .string ⟨#[]⟩, .int .i64 0, .int .i64 0, .slice none 0 0, .slice none 0 0, .slice none 0 0]) 8 128 Tryz.underlying37 hi hz0 hz1 hz2 rfl (by decide) (.slice (some ⟨w.heap.size, 0, none⟩) 0 0) 0 [] rfl (World.ownsRow_lit _ #[] 0 (Nat.le_refl _) (Nat.zero_le _) (by simp)) ad l.length cap xs rfl HX.out.1.1 ?a2 HX.out.2.2 ?a4 ?a5 ?a6 ?_)
    case a2 =>
      intro j u hj
      have h1 := HX.out.2.1 j u hj
      rw [Go.RowKit.Below.cell ((Below.refl w.heap.size w).alloc (Nat.le_refl _) _) (cell_lt h1)]
      exact h1
    case a4 => unfold maxLen; omega
    case a5 => omega
    case a6 => simp
    intro v' w' hown hgrow hnil
    go_wp2_with fail
    go_ret
    refine ⟨v', xs, rfl, ?_, HX.out.1, ?_⟩
    · exact hown
    · exact Below.grown ((Below.refl _ _).alloc (Nat.le_refl _) _) hgrow (by simp) (by rintro k e; injection e with e; rw [← e]; exact Nat.le_refl _)

theorem info_fr : (Tryz.prog.info? 94).map (fun i => (i.zero, i.size, i.bytes)) = some (some (.agg #[.int .i64 0, .slice none 0 0, .slice none 0 0]), 3, 56) := by kernel_rfl
set_option maxHeartbeats 1000000 in
set_option maxRecDepth 100000 in
theorem clone_fr {α : Type} {P : Nat → Prop} {E : World → α → List Value → Prop} (hk : Row1 3 E) (v : Value) (l : List α) (w : World) (h : Hid (RdX P 3 E w v l)) :
    Calls Tryz.prog 202 #[v] w fun e w' => ∃ v' xs, e = .returned v' ∧ w'.ownsRow w.heap.size 94 3 v' l.length xs ∧ RowsE 3 (E w) l xs ∧ Below w.heap.size w w' := by
  obtain ⟨A, cap, rfl⟩ := h.out.shape
  have hlen := h.out.len
  obtain ⟨i0, hi, hz0, hz1, hz2⟩ := info_parts info_fr
  cases A with
  | none =>
    have hl := h.out.none0.1
    subst hl
    have hq : ∀ w', (binOp .eql 25 (.slice none 0 cap) (.slice none 0 0)).run Tryz.prog w' = .ok (.bool true) w' := fun w' => by kernel_rfl
    go_enter Tryz.func202, Tryz.ntmps202
    go_wp2_with fail
    go_ret
    exact ⟨_, [], rfl, World.ownsRow_nil _ _ _ _, rowsE_nil _ _, Below.refl _ _⟩
  | some ad =>
    obtain ⟨xs, HX⟩ : ∃ xs, Hid (RowsE 3 (E w) l xs ∧ (∀ (j : Nat) u, xs[j]? = some u → w.cell? (ad.add j) = some u) ∧ ∀ u, u ∈ xs → u.oneCell' = true) := by
      obtain ⟨xs, hx⟩ := rdX_cells hk h.out
      exact ⟨xs, lhid hx⟩
    have hq : ∀ w', (binOp .eql 25 (.slice (some ad) l.length cap) (.slice none 0 0)).run Tryz.prog w' = .ok (.bool false) w' := fun w' => by kernel_rfl
    go_enter Tryz.func202, Tryz.ntmps202
    go_wp2_with (at_builtin; refine wpList_append_own _ rfl (.tmp 5) (.tmp 6) 25 rfl w.heap.size 94 i0 (.agg #[.int .i64 0, .slice none 0 0, .slice none 0 0]) 3 56 Tryz.underlying25 hi hz0 hz1 hz2 rfl (by decide) (.slice (some ⟨w.heap.size, 0, none⟩) 0 0) 0 [] rfl (World.ownsRow_lit _ #[] 0 (Nat.le_refl _) (Nat.zero_le _) (by simp)) ad l.length cap xs rfl HX.out.1.1 ?a2 HX.out.2.2 ?a4 ?a5 ?a6 ?_)
    case a2 =>
      intro j u hj
      have h1 := HX.out.2.1 j u hj
      rw [Go.RowKit.Below.cell ((Below.refl w.heap.size w).alloc (Nat.le_refl _) _) (cell_lt h1)]
      exact h1
    case a4 => unfold maxLen; omega
    case a5 => omega
    case a6 => simp
    intro v' w' hown hgrow hnil
    go_wp2_with fail
    go_ret
    refine ⟨v', xs, rfl, ?_, HX.out.1, ?_⟩
    · exact hown
    · exact Below.grown ((Below.refl _ _).alloc (Nat.le_refl _) _) hgrow (by simp) (by rintro k e; injection e with e; rw [← e]; exact Nat.le_refl _)

set_option maxRecDepth 100000 in
/-- 'append' of what can be read to a list of the call's own. -/
theorem wpList_append_rd {ops : Array Oper} {rest : List Oper} {o : Oper} {a : Act} {w : World} {Q : Exit → Act → World → Prop} (hgd : o.guard = none) (s x : Operand) (t : TypeId)
    (ho : o.op = .call { callee := .builtin .append, args := #[s, x], argTypes := #[t, t] })
    (base : Nat) (e : TypeId) (i : TypeInfo) (z : Value) (size bytes : Nat) (ht : Tryz.prog.underlying t = some (.slice e)) (hi : Tryz.prog.info? e = some i) (hz : i.zero = some z)
    (hsize : i.size = size) (hby : i.bytes = bytes) (hzs : z.cells.size = size) (hsz : 0 < size)
    (v : Value) (n : Nat) (xs : List Value) (hs : a.eval s = v) (hown : w.ownsRow base e size v n xs)
    {α : Type} {P : Nat → Prop} {E : World → α → List Value → Prop} (hk : Row1 size E) (v2 : Value) (l2 : List α) (hx : a.eval x = v2) (h2 : RdX P size E w v2 l2)
    (hb : n + l2.length ≤ 8589934592) (hby2 : bytes ≤ 136) (hbase : base ≤ w.heap.size)
    (h : ∀ v' w' ys, w'.ownsRow base e size v' (n + l2.length) (xs ++ ys) → RowsE size (E w) l2 ys → w.grownBy w' v.ownBlock → wpList Tryz.prog ops Q rest (a.put o.dst v') w') : wpList Tryz.prog ops Q (o :: rest) a w := by
  obtain ⟨A, cap, rfl⟩ := h2.shape
  cases A with
  | none =>
    obtain ⟨rfl, _, rfl⟩ := h2.none0
    refine wpList_append_own_none hgd s x t ho base e i size ht hi v n xs hs hown hx (h v w [] (by simpa using hown) (rowsE_nil _ _) ?_)
    exact ⟨rfl, rfl, rfl, Nat.le_refl _, fun _ _ _ => rfl⟩
  | some ad =>
    obtain ⟨ys, h3, h4, h5⟩ := rdX_cells hk h2
    have h6 : (n + l2.length) * bytes ≤ 8589934592 * 136 := Nat.mul_le_mul hb hby2
    refine wpList_append_own w hgd s x t ho base e i z size bytes ht hi hz hsize hby hzs hsz v n xs hs hown ad l2.length cap ys hx h3.1 h4 h5 (by unfold maxLen; omega) (by omega) hbase (fun v' w' r1 r2 _ => h v' w' ys r1 h3 r2)
end Go.Proofs.YtpdnonlelocfbaaGreatDoor
/- Names and flags of classes: isMisnamed, isInterface, and who asks them of a list. -/
namespace Go.Proofs.YtpdnonlelocfbaaGreatDoor
open Go.RowKit Go
set_option linter.unusedVariables false

/-- Is it an interface? -/
def ifc (c : ClI) : Bool := bits .and .i64 c.flags 512 != 0
theorem name_tx (l : Bs) (r : Bool) (w : World) (h : Hid (nameB l false = r)) (hs : l.length ≤ maxLen) :
    Calls Tryz.prog 85 #[.string (tx l), .bool false] w fun e w' => e = .returned (.bool r) ∧ w = w' := by
  refine (name_any (tx l) false w (by rw [tx_size]; exact hs)).mono ?_
  rintro e w' ⟨rfl, rfl⟩
  rw [tx_list, h.out]
  exact ⟨rfl, rfl⟩
set_option maxHeartbeats 1000000 in
set_option maxRecDepth 100000 in
theorem isMisnamed_any (c : ClI) (a p b d : Value) (w : World) (hn : c.name.length ≤ maxLen) :
    Calls Tryz.prog 42 #[.agg #[.int .i64 c.flags, .string (tx c.name), .string (tx c.super), a, p, b, d]] w fun e w' => e = .returned (.bool (!nameB c.name false)) ∧ Below w.heap.size w w' := by
  obtain ⟨r, hr⟩ : ∃ r, nameB c.name false = r := ⟨_, rfl⟩
  have HR := lhid hr
  clear hr
  go_enter Tryz.func42, Tryz.ntmps42
  go_wp2_with fail
  with_reducible refine (name_tx c.name r _ HR hn).mono ?_
  rintro e w1 ⟨rfl, rfl⟩
  go_wp2_with fail
  go_ret
  exact ⟨by rw [HR.out]; rfl, (Below.refl _ _).alloc (Nat.le_refl _) _⟩
theorem isMisnamed_cs (P : Nat → Prop) (c : ClI) (cs : List Value) (w : World) (h : Hid (ClE P w c cs)) (hn : c.name.length ≤ maxLen) :
    Calls Tryz.prog 42 #[.agg cs.toArray] w fun e w' => e = .returned (.bool (!nameB c.name false)) ∧ Below w.heap.size w w' := by
  obtain ⟨a, p, b, d, rfl, _⟩ := h.out
  exact isMisnamed_any c a p b d w hn
set_option maxHeartbeats 1000000 in
set_option maxRecDepth 100000 in
theorem isInterface_any (c : ClI) (a p b d : Value) (w : World) :
    Calls Tryz.prog 147 #[.agg #[.int .i64 c.flags, .string (tx c.name), .string (tx c.super), a, p, b, d]] w fun e w' => e = .returned (.bool (ifc c)) ∧ Below w.heap.size w w' := by
  obtain ⟨r, hr⟩ : ∃ r, bits .and .i64 c.flags 512 = r := ⟨_, rfl⟩
  have hi : ifc c = (r != 0) := by rw [← hr]; rfl
  have HI := lhid hi
  clear hi
  go_enter Tryz.func147, Tryz.ntmps147
  go_wp2_with fail
  go_ret
  exact ⟨by rw [HI.out]; rfl, (Below.refl _ _).alloc (Nat.le_refl _) _⟩
theorem isInterface_cs (P : Nat → Prop) (c : ClI) (cs : List Value) (w : World) (h : Hid (ClE P w c cs)) :
    Calls Tryz.prog 147 #[.agg cs.toArray] w fun e w' => e = .returned (.bool (ifc c)) ∧ Below w.heap.size w w' := by
  obtain ⟨a, p, b, d, rfl, _⟩ := h.out
  exact isInterface_any c a p b d w
theorem sz_cl : (Tryz.prog.info? 39).map (·.size) = some 7 := by kernel_rfl
def misB (c : ClI) : Bool := !nameB c.name false
set_option maxHeartbeats 4000000 in
set_option maxRecDepth 100000 in
theorem indexMis_any (P : Nat → Prop) (v : Value) (l : List ClI) (w : World) (h : Hid (RdX P 7 (ClE P) w v l)) (hn : Hid (∀ c ∈ l, c.name.length ≤ maxLen)) :
    Calls Tryz.prog 84 #[v, .func (.func 42) #[] #[]] w fun e w' => ∃ r : Int, e = .returned (.int .i64 r) ∧ Below w.heap.size w w' ∧ (0 ≤ r ↔ l.any misB = true) := by
  obtain ⟨A, cap, rfl⟩ := h.out.shape
  have hlen := h.out.len
  go_enter Tryz.func84, Tryz.ntmps84
  go_wp2_with fail
  go_loopw [8] (fun i wr => ∃ kk : Nat, i = .int .i64 kk ∧ kk ≤ l.length ∧ Hid ((l.take kk).any misB = false) ∧ Hid (Below w.heap.size w wr)) (fun i _ => l.length - (intOf i).toNat)
  case atStart => exact ⟨0, rfl, Nat.zero_le _, lhid (by simp), lhid (Below.refl _ _)⟩
  case round =>
    obtain ⟨kk, rfl, hkk, HM, HB⟩ := hrel
    by_cases hlt : kk < l.length
    · obtain ⟨x, hx⟩ : ∃ x, l[kk]? = some x := ⟨_, List.getElem?_eq_getElem hlt⟩
      have HX := lhid hx
      have HR := lhid (h.out.below (keptX_cl P) HB.out)
      obtain ⟨ga, oa, cc, rfl, _, hE, hc⟩ := HR.out.at' hx
      have hc1 := row_cl P _ _ _ hE
      have HE := lhid hE
      have HRA : Hid (wr.rangeAt ga (oa + kk * 7) cc) := lhid hc
      have HSZ : Hid ((Tryz.prog.info? 39).map (·.size) = some cc.length) := lhid (by rw [hc1.1]; exact sz_cl)
      have k3 : (kk : Int) < l.length := by omega
      have hnx := hn.out x (List.mem_of_getElem? hx)
      have HNX := lhid hnx
      clear hx hc hE hc1 hnx
      go_wp2_with (refine wpList_load_mid rfl 39 _ rfl ga (oa + kk * 7) rfl cc _ HRA.out Tryz.underlying39 (by rfl) HSZ.out ?_)
      refine (isMisnamed_cs P x cc _ HE HNX.out).mono ?_
      rintro e w2 ⟨rfl, hb2⟩
      have HB2 := lhid (HB.out.trans (Below.less hb2 HB.out.size))
      have htk : (l.take (kk + 1)).any misB = ((l.take kk).any misB || misB x) := by rw [List.take_add_one, HX.out]; simp
      have HTK := lhid htk
      clear hb2 htk
      cases hm : nameB x.name false with
      | false =>
        have HMX := lhid hm
        clear hm
        go_wp2_with fail
        go_ret
        exact ⟨(kk : Int), rfl, HB2.out, ⟨fun _ => List.any_eq_true.2 ⟨x, List.mem_of_getElem? HX.out, by unfold misB; rw [HMX.out]; rfl⟩, fun _ => by omega⟩⟩
      | true =>
        have HMX := lhid hm
        clear hm
        go_wp2_with fail
        go_roundw
        case rel => exact ⟨kk + 1, by go_num, by omega, lhid (by rw [HTK.out, HM.out]; unfold misB; rw [HMX.out]; rfl), HB2⟩
        case measure => simp [intOf]; omega
    · have k3 : ¬ (kk : Int) < l.length := by omega
      have hm := HM.out
      rw [List.take_of_length_le (by omega)] at hm
      have HM2 := lhid hm
      clear hm HM
      go_wp2_with fail
      go_ret
      exact ⟨-1, rfl, HB.out, ⟨fun h => absurd h (by omega), fun h => by have h2 := List.any_eq_true.2 h; rw [HM2.out] at h2; cases h2⟩⟩
set_option maxHeartbeats 1000000 in
set_option maxRecDepth 100000 in
theorem containsMis_any (P : Nat → Prop) (v : Value) (l : List ClI) (w : World) (h : Hid (RdX P 7 (ClE P) w v l)) (hn : Hid (∀ c ∈ l, c.name.length ≤ maxLen)) :
    Calls Tryz.prog 41 #[v, .func (.func 42) #[] #[]] w fun e w' => e = .returned (.bool (l.any misB)) ∧ Below w.heap.size w w' := by
  go_enter Tryz.func41, Tryz.ntmps41
  go_wp2_with fail
  with_reducible refine (indexMis_any P v l _ h hn).mono ?_
  rintro e w1 ⟨r, rfl, hb, hr⟩
  have HB := lhid hb
  have HR := lhid hr
  clear hb hr
  by_cases h0 : 0 ≤ r
  · go_wp2_with fail
    go_ret
    exact ⟨by rw [HR.out.1 h0]; rfl, HB.out⟩
  · have h1 : r < 0 := by omega
    go_wp2_with fail
    go_ret
    refine ⟨?_, HB.out⟩
    have : l.any misB = false := by
      cases hq : l.any misB with
      | false => rfl
      | true => exact absurd (HR.out.2 hq) (by omega)
    rw [this]
    simp
    omega
end Go.Proofs.YtpdnonlelocfbaaGreatDoor
