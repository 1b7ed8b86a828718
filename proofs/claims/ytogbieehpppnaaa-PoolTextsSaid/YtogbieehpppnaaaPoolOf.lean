/- Contracts of the document's 'of', and of what it fills of a text. -/
import Derived.Test.YtogbieehpppnaaaPoolResolve
namespace Go.Proofs.Ytogbieehpppnaaa
open Go.RowKit Go
set_option linter.unusedVariables false

/-- Constant 0 is none. -/
def ZeroL (l : List Ent) : Prop := ∀ x, l[0]? = some x → x.kind = 0
theorem zero_none {l : List Ent} (h : ZeroL l) (k : Nat) (hk : k ≠ 0) : entAt l 0 k = none := by
  unfold entAt
  cases hl : l[0]? with
  | none => rfl
  | some x =>
    simp only
    rw [if_neg (by rw [h x hl]; omega)]
set_option maxHeartbeats 4000000 in
set_option maxRecDepth 100000 in
theorem of_no (g : Nat) (l : List Ent) (n i k : Nat) (kk : Int) (w : World) (h : RowsAt w g 69 8 (l.map entV)) (hn : Hid (l.length = n)) (hk : Hid (kk = k)) (hat : Hid (entAt l i k = none)) :
    Calls Try.prog 35 #[.slice (some ⟨g, 0, none⟩) n n, .int .i64 i, .int .i64 kk] w fun e w' => e = .returned (.tuple #[.agg #[.int .i64 0, .int .i64 0, .string ⟨#[]⟩, .string ⟨#[]⟩, .string ⟨#[]⟩, .int .i64 0, .int .i64 0, .int .i64 0], .bool false]) ∧ Below w.heap.size w w' := by
  by_cases hi : (i : Int) < 1
  · clear h
    go_enter Try.func35, Try.ntmps35
    go_wp2_with fail
    refine bodyPost_ret (v := .tuple #[.agg #[.int .i64 0, .int .i64 0, .string ⟨#[]⟩, .string ⟨#[]⟩, .string ⟨#[]⟩, .int .i64 0, .int .i64 0, .int .i64 0], .bool false]) (by simp [results, Try.results35, go_sem]) rfl ⟨rfl, ?_⟩
    exact (Below.refl _ _).alloc (Nat.le_refl _) _
  have hi1 : (1 : Int) ≤ i := by omega
  have hi0 : ¬ i = 0 := by omega
  rcases entAt_none hat.out with hl | ⟨x, hx, hne⟩
  · have hge : ¬ (i < n) := by rw [← hn.out]; omega
    clear h
    go_enter Try.func35, Try.ntmps35
    go_wp2_with fail
    refine bodyPost_ret (v := .tuple #[.agg #[.int .i64 0, .int .i64 0, .string ⟨#[]⟩, .string ⟨#[]⟩, .string ⟨#[]⟩, .int .i64 0, .int .i64 0, .int .i64 0], .bool false]) (by simp [results, Try.results35, go_sem]) rfl ⟨rfl, ?_⟩
    exact (Below.refl _ _).alloc (Nat.le_refl _) _
  · have hlt : i < n := by rw [← hn.out]; exact (List.getElem?_eq_some_iff.1 hx).1
    obtain ⟨a0, a1, a2, a3, a4, a5, a6, a7⟩ := rows_at h hx
    have hgs := h.lt
    have t1 : ((x.kind : Int) != kk) = true := by rw [bne_iff_ne, hk.out]; omega
    have t2 : ((x.kind : Int) == kk) = false := by rw [beq_eq_false_iff_ne, hk.out]; omega
    clear h hx hne a1 a2 a3 a4 a5 a6 a7
    go_enter Try.func35, Try.ntmps35
    go_wp2_with fail
    refine bodyPost_ret (v := .tuple #[.agg #[.int .i64 0, .int .i64 0, .string ⟨#[]⟩, .string ⟨#[]⟩, .string ⟨#[]⟩, .int .i64 0, .int .i64 0, .int .i64 0], .bool false]) (by simp [results, Try.results35, go_sem]) rfl ⟨rfl, ?_⟩
    exact (Below.refl _ _).alloc (Nat.le_refl _) _
set_option maxHeartbeats 4000000 in
set_option maxRecDepth 100000 in
theorem of_yes (g : Nat) (l : List Ent) (n i k : Nat) (kk : Int) (x : Ent) (w : World) (h : RowsAt w g 69 8 (l.map entV)) (hn : Hid (l.length = n)) (hk : Hid (kk = k)) (hat : Hid (entAt l i k = some x)) (hi : 1 ≤ (i : Int)) :
    Calls Try.prog 35 #[.slice (some ⟨g, 0, none⟩) n n, .int .i64 i, .int .i64 kk] w fun e w' => e = .returned (.tuple #[.agg #[.int .i64 x.kind, .int .i64 x.num, .string (tx x.text), .string ⟨#[]⟩, .string ⟨#[]⟩, .int .i64 x.a, .int .i64 x.b, .int .i64 x.d], .bool true]) ∧ Below w.heap.size w w' := by
  obtain ⟨hx, hxk⟩ := entAt_some hat.out
  have hlt : i < n := by rw [← hn.out]; exact (List.getElem?_eq_some_iff.1 hx).1
  obtain ⟨a0, a1, a2, a3, a4, a5, a6, a7⟩ := rows_at h hx
  have hgs := h.lt
  have hi0 : ¬ i = 0 := by omega
  have hi1 : ¬ (i : Int) < 1 := by omega
  have t1 : ((x.kind : Int) != kk) = false := by rw [bne_eq_false_iff_eq, hk.out]; omega
  have t2 : ((x.kind : Int) == kk) = true := by rw [beq_iff_eq, hk.out]; omega
  clear h hx hxk
  go_enter Try.func35, Try.ntmps35
  go_wp2_with fail
  refine bodyPost_ret (v := .tuple #[.agg #[.int .i64 x.kind, .int .i64 x.num, .string (tx x.text), .string ⟨#[]⟩, .string ⟨#[]⟩, .int .i64 x.a, .int .i64 x.b, .int .i64 x.d], .bool true]) (by simp [results, Try.results35, go_sem]) rfl ⟨rfl, ?_⟩
  exact (Below.refl _ _).alloc (Nat.le_refl _) _
theorem of_f (g : Nat) (l : List Ent) (n i k : Nat) (kk : Int) (y : Ent) (b : Bool) (w : World) (h : RowsAt w g 69 8 (l.map entV)) (hn : Hid (l.length = n)) (hz : Hid (ZeroL l)) (hk0 : k ≠ 0) (hk : Hid (kk = k)) (hy : Hid ((entAt l i k).getD Ent.zero = y)) (hb : Hid ((entAt l i k).isSome = b)) :
    Calls Try.prog 35 #[.slice (some ⟨g, 0, none⟩) n n, .int .i64 i, .int .i64 kk] w fun e w' => e = .returned (.tuple #[.agg #[.int .i64 y.kind, .int .i64 y.num, .string (tx y.text), .string ⟨#[]⟩, .string ⟨#[]⟩, .int .i64 y.a, .int .i64 y.b, .int .i64 y.d], .bool b]) ∧ Below w.heap.size w w' := by
  have h1 := hy.out
  have h2 := hb.out
  cases hx : entAt l i k with
  | none =>
    rw [hx] at h1 h2
    simp only [Option.getD_none, Option.isSome_none] at h1 h2
    subst h1 h2
    exact of_no g l n i k kk w h hn hk (lhid hx)
  | some x =>
    rw [hx] at h1 h2
    simp only [Option.getD_some, Option.isSome_some] at h1 h2
    subst h1 h2
    refine of_yes g l n i k kk x w h hn hk (lhid hx) ?_
    rcases Nat.eq_zero_or_pos i with rfl | hi
    · rw [zero_none hz.out k hk0] at hx
      cases hx
    · omega
end Go.Proofs.Ytogbieehpppnaaa
