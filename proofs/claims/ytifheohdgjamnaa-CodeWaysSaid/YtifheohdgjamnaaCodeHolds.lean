/- Contract of law 06's holds. -/
import Derived.Test.YtifheohdgjamnaaCodeDecode
namespace Go.Proofs.Ytifheohdgjamnaa
open Go.RowKit Go
set_option linter.unusedVariables false

def cA : Bs := [16, 255, 177]
def cB : Bs := [167, 0, 2, 177]
def dA : List Cop := [⟨0, 16, -1, 0⟩, ⟨2, 177, 0, 0⟩]
def dB : List Cop := [⟨0, 167, 2, 0⟩, ⟨3, 177, 0, 0⟩]
theorem decR_A : decR cA = (0, dA) := by
  refine decR_led cA dA (by decide) (by decide) (by kernel_rfl) ?_
  intro x hx hl
  unfold dA at hx
  simp only [List.mem_cons, List.not_mem_nil, or_false] at hx
  rcases hx with rfl | rfl
  · exact absurd hl (by unfold Lead; decide)
  · exact absurd hl (by unfold Lead; decide)
theorem decR_B : decR cB = (41, []) := by
  refine decR_astray cB dB (by decide) (by decide) (by kernel_rfl) ?_
  intro h
  obtain ⟨_, _, y, hy, e⟩ := h ⟨0, 167, 2, 0⟩ (by unfold dB; simp) (by unfold Lead; decide)
  unfold dB at hy
  simp only [List.mem_cons, List.not_mem_nil, or_false] at hy
  rcases hy with rfl | rfl <;> simp at e
theorem bts_new (w : World) (g : Nat) (T : TypeId) (n : Nat) (c : Array Value) (l : Bs) (hc : c = (l.map fun b => Value.int .u8 (b.toNat : Int)).toArray) (hn : n = l.length) (hl : l.length ≤ 100) (hg : w.heap.size = g) : Bts (w.alloc (.cells c T)) (.slice (some ⟨g, 0, none⟩) n n) l := by
  subst hg
  refine ⟨rdl_block (f := fun b : UInt8 => Value.int .u8 (b.toNat : Int)) (fun _ => rfl) (heap_alloc_new w _) hc hn (by omega), _, n, by rw [hn], by omega, by unfold maxLen; omega⟩
set_option maxHeartbeats 4000000 in
set_option maxRecDepth 100000 in
theorem holds_any (w : World) :
    Calls Try.prog 8 #[] w fun e w' => e = .returned (.bool true) ∧ Below w.heap.size w w' := by
  go_enter Try.func8, Try.ntmps8
  go_wp2_with fail
  with_reducible refine (decode_any cA _ _ (lhid (bts_new _ _ _ _ _ _ (by with_unfolding_all rfl) (by with_unfolding_all rfl) (by decide) (by simp)))).mono ?_
  rw [decR_A]
  rintro e w1 ⟨⟨v, rfl, hv⟩, hb⟩
  have HB := lhid (((Below.refl w.heap.size w).alloc (Nat.le_refl _) (.cells #[.int .u8 16, .int .u8 255, .int .u8 177] 5)).trans (hb.mono (by simp)))
  have HV := lhid hv
  clear hv hb
  go_wp2_with fail
  with_reducible refine (decode_any cB _ _ (lhid (bts_new _ _ _ _ _ _ (by with_unfolding_all rfl) (by with_unfolding_all rfl) (by decide) (by simp)))).mono ?_
  rw [decR_B]
  rintro e w2 ⟨⟨v2, rfl, hv2⟩, hb⟩
  have hb2 := ((Below.refl w1.heap.size w1).alloc (Nat.le_refl _) (.cells #[.int .u8 167, .int .u8 0, .int .u8 2, .int .u8 177] 5)).trans (hb.mono (by simp))
  have HB2 := lhid (HB.out.trans (hb2.mono HB.out.size))
  have hv3 := HV.out.below hb2
  obtain ⟨A, cap, rfl⟩ := hv3.shape
  obtain ⟨g, o, rfl, h0⟩ := hv3.at' (i := 0) (a := ⟨0, 16, -1, 0⟩) rfl
  obtain ⟨g', o', e1, h1⟩ := hv3.at' (i := 1) (a := ⟨2, 177, 0, 0⟩) rfl
  injection e1 with e1
  injection e1 with e1 e2
  subst e1 e2
  obtain ⟨c0, c1, c2, c3⟩ := cell4 h0
  obtain ⟨d0, d1, d2, d3⟩ := cell4 h1
  simp only [Nat.zero_mul, Nat.one_mul, Nat.add_zero] at c0 c1 c2 c3 d0 d1 d2 d3
  clear hv3 h0 h1 hb hb2 hv2
  have hlen : dA.length = 2 := rfl
  rw [hlen]
  go_wp2_with fail
  go_ret
  exact ⟨rfl, HB2.out⟩
end Go.Proofs.Ytifheohdgjamnaa
