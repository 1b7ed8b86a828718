/- Contract of the document's one. -/
import Derived.Test.YthaijdcgmcfpiaaInsRChk2
import Derived.Test.YthaijdcgmcfpiaaRefType
import Derived.Deep.Cut
import Derived.Deep.CutRange
import Derived.Deep.CutBlock
namespace Go.Proofs.Ythaijdcgmcfpiaa
open Go.RowKit Go
set_option linter.unusedVariables false
set_option linter.unusedSimpArgs false

theorem rtype_r (x : Bs) (z : Bool) (w : World) (hz : Hid (typeB x = z)) (hs : Hid (x.length ≤ maxLen)) : Calls Try.prog 83 #[.string (tx x)] w fun e w' => e = .returned (.bool z) ∧ w = w' := by
  have hs2 := hs.out
  have := refType_any (tx x) w (by rw [tx_size]; exact hs2)
  rwa [tx_list, hz.out] at this
theorem rcall_r {P Q : Nat → Prop} (rs : List Int) (fa fb : Value) (ret : Int) (fd fe : Value) (x : InI) (v : Value) (z : Bool) (w : World) (h : Hid (RdX P 1 NuE w fa rs)) (hv : Hid (RdX Q 1 NuE w v x.args)) (hz : Hid (callD rs x = z)) :
    Calls Try.prog 84 #[fuL fa fb ret fd fe, inA x v] w fun e w' => e = .returned (.bool z) ∧ Below w.heap.size w w' := by
  have := rcall_any rs fa fb ret fd fe x v w h hv
  rwa [hz.out] at this
def TT (z0 z1 z2 z3 : Bool) (j : Nat) : Prop := (0 < j → z0 = true) ∧ (1 < j → z1 = true) ∧ (2 < j → z2 = true) ∧ (3 < j → z3 = true)
set_option maxHeartbeats 16000000 in
set_option maxRecDepth 100000 in
theorem rone_none {P Q : Nat → Prop} (rs : List Int) (fa fb : Value) (ret : Int) (D : Option Addr) (n dcap : Nat) (fe : Value) (c d a b k num t : Int) (r : Bs) (l : List Int) (v : Value) (w : World) (h : Hid (RdX P 1 NuE w fa rs)) (hv : Hid (RdX Q 1 NuE w v l)) (hr : Hid (r.length ≤ maxLen)) (he : rowT c = []) :
    Calls Try.prog 59 #[fuL fa fb ret (.slice D n dcap) fe, inL c d a b k num t r v] w fun e w' => e = .returned (.bool false) ∧ Below w.heap.size w w' := by
  have HRow : ∀ w, Hid (Calls Try.prog 53 #[.int .i64 c] w fun e w' => e = .returned (.string (tx [])) ∧ Below w.heap.size w w') := fun w => lhid (by have := rrow_any c w; rwa [he] at this)
  have q0 := tx_nil
  go_enter Try.func59, Try.ntmps59
  go_wp2_with fail
  with_reducible refine (HRow _).out.mono ?_
  rintro e w1 ⟨rfl, hb⟩
  have hF : FBox w1 w.heap.size fa fb ret (.slice D n dcap) fe := heap_keep ((Below.heap_alloc _ _ _ (by simp)).trans (heap_alloc_new w _)) hb
  have hX : XBox w1 (w.heap.size + 1) c d a b k num t r v := heap_keep (heap_new2 w _ _) hb
  have hb1 := (((Below.refl w.heap.size w).alloc (Nat.le_refl _) _).alloc (by simp) _).trans (hb.mono (by simp; omega))
  have HB1 := lhid hb1
  obtain ⟨p0, p1, p2, p3, p4⟩ := hF.cells
  obtain ⟨y0, y1, y2, y3, y4, y5, y6, y7, y8⟩ := hX.cells
  have HF1 := lhid hF
  have HX1 := lhid hX
  clear hb hF hX hb1
  go_wp2_with fail
  go_ret
  exact ⟨rfl, HB1.out⟩
theorem knd_far (c : Int) (h : ¬ (0 ≤ c ∧ c < 1000)) : Nu.knd c = (0, 0, 0) := Nu.knd_none c (by omega)
theorem rkinds_r (c a b s : Int) (w : World) (hc : Hid (0 ≤ c ∧ c < 1000)) (hk : Hid (Nu.knd c = (a, b, s))) : Calls Try.prog 82 #[.int .i64 c] w fun e w' => e = .returned (.tuple #[.int .i64 a, .int .i64 b, .int .i64 s]) ∧ w = w' := by
  have := Nu.refKinds_any c (by have := hc.out; omega) w
  rwa [hk.out] at this
end Go.Proofs.Ythaijdcgmcfpiaa
