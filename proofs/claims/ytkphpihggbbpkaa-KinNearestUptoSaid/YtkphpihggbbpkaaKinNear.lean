/- The walk of KinNearest: the chain of classes. -/
import Derived.Test.YtkphpihggbbpkaaKinNear0
import Derived.Test.YtkphpihggbbpkaaKinOpenB
import Derived.Laws.BytesArg
namespace Go.Proofs.Ytkphpihggbbpkaa
open Go.RowKit Go Go.Maps
set_option linter.unusedVariables false

theorem nm_str (i : Nat) : strOfNums [107, 97 + (i : Int) / 10, 48 + (i : Int) % 10] = tx (nm i) := by
  have e1 : (97 + (i : Int) / 10).toNat = 97 + i / 10 := by omega
  have e2 : (48 + (i : Int) % 10).toNat = 48 + i % 10 := by omega
  unfold strOfNums tx nm
  simp [e1, e2]
set_option maxHeartbeats 4000000 in
set_option maxRecDepth 100000 in
theorem name_any' (i : Nat) (z : Int) (hz : Hid (z = (i : Int))) (w : World) (hi : i < 36) :
    Calls Try.prog 11 #[.int .i64 z] w fun e w' => e = .returned (.string (tx (nm i))) ∧ Below w.heap.size w w' := by
  obtain rfl := hz.out
  clear hz
  have hx := heap_alloc_new w (.cells #[.int .u8 107, .int .u8 (97 + (i : Int) / 10), .int .u8 (48 + (i : Int) % 10)] 5)
  have hconv : (convert 41 9 (.slice (some ⟨w.heap.size, 0, none⟩) 3 3)).run Try.prog (w.alloc (.cells #[.int .u8 107, .int .u8 (97 + (i : Int) / 10), .int .u8 (48 + (i : Int) % 10)] 5)) = .ok (.string (tx (nm i))) (w.alloc (.cells #[.int .u8 107, .int .u8 (97 + (i : Int) / 10), .int .u8 (48 + (i : Int) % 10)] 5)) := by
    have h := run_convert_bytes_arg (P := Try.prog) (w.alloc (.cells #[.int .u8 107, .int .u8 (97 + (i : Int) / 10), .int .u8 (48 + (i : Int) % 10)] 5)) 41 5 Try.underlying41 Try.underlying5 w.heap.size 0 3 3 [107, 97 + (i : Int) / 10, 48 + (i : Int) % 10] rfl (fun j hj => by
      match j, hj with
      | 0, _ => exact heap_cell (i := 0) hx rfl
      | 1, _ => exact heap_cell (i := 1) hx rfl
      | 2, _ => exact heap_cell (i := 2) hx rfl) 9 Try.underlying9
    rw [h, nm_str]
  have HB := lhid ((Below.refl w.heap.size w).alloc (Nat.le_refl _) (.cells #[.int .u8 107, .int .u8 (97 + (i : Int) / 10), .int .u8 (48 + (i : Int) % 10)] 5))
  clear hx
  go_enter Try.func11, Try.ntmps11
  go_wp2_with fail
  go_ret
  exact ⟨by rfl, HB.out⟩
end Go.Proofs.Ytkphpihggbbpkaa
