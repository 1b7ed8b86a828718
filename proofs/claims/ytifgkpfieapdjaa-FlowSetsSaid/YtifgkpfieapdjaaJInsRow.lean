/- Contract of the document's row. -/
import Derived.Test.YtifgkpfieapdjaaM3
import Derived.Deep.Cut
import Derived.Deep.CutBlock
import Derived.KernelRfl
namespace Go.Proofs.Ytifgkpfieapdjaa
open Go.RowKit Go
set_option linter.unusedVariables false
set_option linter.unusedSimpArgs false

theorem tab_at (w : World) (T : TypeId) (n : Nat) (hn : n < 34) : (w.alloc (.cells #[.string ⟨#[]⟩, .string ⟨#[110, 45, 45, 45]⟩, .string ⟨#[51, 45, 45, 45]⟩, .string ⟨#[51, 45, 45, 45]⟩, .string ⟨#[42, 61, 45, 45]⟩, .string ⟨#[63, 63, 63, 63]⟩, .string ⟨#[63, 63, 63, 63]⟩, .string ⟨#[45, 110, 45, 45]⟩, .string ⟨#[45, 51, 45, 45]⟩, .string ⟨#[45, 51, 49, 45]⟩, .string ⟨#[45, 49, 45, 45]⟩, .string ⟨#[45, 51, 51, 45]⟩, .string ⟨#[45, 51, 45, 45]⟩, .string ⟨#[42, 51, 49, 45]⟩, .string ⟨#[45, 51, 49, 42]⟩, .string ⟨#[49, 51, 45, 45]⟩, .string ⟨#[42, 51, 45, 45]⟩, .string ⟨#[45, 51, 42, 45]⟩, .string ⟨#[42, 45, 45, 45]⟩, .string ⟨#[45, 42, 45, 45]⟩, .string ⟨#[51, 45, 45, 45]⟩, .string ⟨#[51, 49, 45, 45]⟩, .string ⟨#[49, 51, 45, 45]⟩, .string ⟨#[63, 63, 63, 63]⟩, .string ⟨#[63, 63, 63, 63]⟩, .string ⟨#[63, 63, 63, 63]⟩, .string ⟨#[63, 63, 63, 63]⟩, .string ⟨#[45, 45, 45, 45]⟩, .string ⟨#[45, 49, 49, 45]⟩, .string ⟨#[45, 51, 63, 45]⟩, .string ⟨#[45, 63, 45, 45]⟩, .string ⟨#[45, 51, 45, 45]⟩, .string ⟨#[51, 45, 45, 45]⟩, .string ⟨#[45, 45, 45, 45]⟩] T)).cell? ⟨w.heap.size, n, none⟩ = some (.string (tx (rowT n))) := by
  refine heap_cell (heap_alloc_new w _) ?_
  have e : (#[.string ⟨#[]⟩, .string ⟨#[110, 45, 45, 45]⟩, .string ⟨#[51, 45, 45, 45]⟩, .string ⟨#[51, 45, 45, 45]⟩, .string ⟨#[42, 61, 45, 45]⟩, .string ⟨#[63, 63, 63, 63]⟩, .string ⟨#[63, 63, 63, 63]⟩, .string ⟨#[45, 110, 45, 45]⟩, .string ⟨#[45, 51, 45, 45]⟩, .string ⟨#[45, 51, 49, 45]⟩, .string ⟨#[45, 49, 45, 45]⟩, .string ⟨#[45, 51, 51, 45]⟩, .string ⟨#[45, 51, 45, 45]⟩, .string ⟨#[42, 51, 49, 45]⟩, .string ⟨#[45, 51, 49, 42]⟩, .string ⟨#[49, 51, 45, 45]⟩, .string ⟨#[42, 51, 45, 45]⟩, .string ⟨#[45, 51, 42, 45]⟩, .string ⟨#[42, 45, 45, 45]⟩, .string ⟨#[45, 42, 45, 45]⟩, .string ⟨#[51, 45, 45, 45]⟩, .string ⟨#[51, 49, 45, 45]⟩, .string ⟨#[49, 51, 45, 45]⟩, .string ⟨#[63, 63, 63, 63]⟩, .string ⟨#[63, 63, 63, 63]⟩, .string ⟨#[63, 63, 63, 63]⟩, .string ⟨#[63, 63, 63, 63]⟩, .string ⟨#[45, 45, 45, 45]⟩, .string ⟨#[45, 49, 49, 45]⟩, .string ⟨#[45, 51, 63, 45]⟩, .string ⟨#[45, 63, 45, 45]⟩, .string ⟨#[45, 51, 45, 45]⟩, .string ⟨#[51, 45, 45, 45]⟩, .string ⟨#[45, 45, 45, 45]⟩] : Array Value) = ((List.range 34).map fun k : Nat => Value.string (tx (rowT k))).toArray := by kernel_rfl
  rw [e]
  simp [hn]
theorem tab_world (w : World) (T : TypeId) (w1 : World) (h : w1 = w.alloc (.cells #[.string ⟨#[]⟩, .string ⟨#[110, 45, 45, 45]⟩, .string ⟨#[51, 45, 45, 45]⟩, .string ⟨#[51, 45, 45, 45]⟩, .string ⟨#[42, 61, 45, 45]⟩, .string ⟨#[63, 63, 63, 63]⟩, .string ⟨#[63, 63, 63, 63]⟩, .string ⟨#[45, 110, 45, 45]⟩, .string ⟨#[45, 51, 45, 45]⟩, .string ⟨#[45, 51, 49, 45]⟩, .string ⟨#[45, 49, 45, 45]⟩, .string ⟨#[45, 51, 51, 45]⟩, .string ⟨#[45, 51, 45, 45]⟩, .string ⟨#[42, 51, 49, 45]⟩, .string ⟨#[45, 51, 49, 42]⟩, .string ⟨#[49, 51, 45, 45]⟩, .string ⟨#[42, 51, 45, 45]⟩, .string ⟨#[45, 51, 42, 45]⟩, .string ⟨#[42, 45, 45, 45]⟩, .string ⟨#[45, 42, 45, 45]⟩, .string ⟨#[51, 45, 45, 45]⟩, .string ⟨#[51, 49, 45, 45]⟩, .string ⟨#[49, 51, 45, 45]⟩, .string ⟨#[63, 63, 63, 63]⟩, .string ⟨#[63, 63, 63, 63]⟩, .string ⟨#[63, 63, 63, 63]⟩, .string ⟨#[63, 63, 63, 63]⟩, .string ⟨#[45, 45, 45, 45]⟩, .string ⟨#[45, 49, 49, 45]⟩, .string ⟨#[45, 51, 63, 45]⟩, .string ⟨#[45, 63, 45, 45]⟩, .string ⟨#[45, 51, 45, 45]⟩, .string ⟨#[51, 45, 45, 45]⟩, .string ⟨#[45, 45, 45, 45]⟩] T)) (n : Nat) (hn : n < 34) : w1.cell? ⟨w.heap.size, n, none⟩ = some (.string (tx (rowT n))) ∧ Below w.heap.size w w1 := by
  subst h
  exact ⟨tab_at w T n hn, (Below.refl w.heap.size w).alloc (Nat.le_refl _) _⟩
set_option maxHeartbeats 8000000 in
set_option maxRecDepth 100000 in
theorem rrow_any (c : Int) (w : World) :
    Calls Try.prog 59 #[.int .i64 c] w fun e w' => e = .returned (.string (tx (rowT c))) ∧ Below w.heap.size w w' := by
  by_cases ho : c < 1 ∨ 34 ≤ c
  · have HR := lhid (out_of c ho).2.2.2.2.2.2.2.2
    by_cases h1 : c < 1
    · clear ho
      go_enter Try.func59, Try.ntmps59
      go_wp2
      go_ret
      exact ⟨by rw [HR.out]; rfl, (Below.refl w.heap.size w).alloc (Nat.le_refl _) _⟩
    · have h2 : 34 ≤ c := by omega
      clear ho
      go_enter Try.func59, Try.ntmps59
      go_wp2
      go_ret
      exact ⟨by rw [HR.out]; rfl, (Below.refl w.heap.size w).alloc (Nat.le_refl _) _⟩
  · obtain ⟨n, rfl, hn1, hn⟩ : ∃ n : Nat, c = n ∧ 1 ≤ n ∧ n < 34 := ⟨c.toNat, by omega, by omega, by omega⟩
    have q1 : ¬ (n : Int) < 1 := by omega
    have q2 : ¬ (34 : Int) ≤ n := by omega
    have q3 : (n : Int) < 34 := by omega
    clear ho
    go_enter Try.func59, Try.ntmps59
    go_upto_region 4 with fail
    generalize hw : w.alloc _ = w1
    obtain ⟨hc, hb⟩ := tab_world w 9 w1 hw.symm n hn
    have HB := lhid hb
    have q4 : (0 : Int) ≤ n := by omega
    clear hw hb hn1 hn
    go_wp2
    go_ret
    exact ⟨rfl, HB.out⟩
end Go.Proofs.Ytifgkpfieapdjaa
