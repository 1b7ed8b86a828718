/- Inside a fence: a region that draws its order, by one relation that every operation keeps: no program in this text. -/
import Derived.OrdersIn
import Derived.Orders
namespace Go.Proofs.Ytbkeneadoccodaa
open Go
set_option linter.unusedVariables false
theorem ready_unlistedI {md : Region.Mode} {ops : Array Oper} {listed : Array Bool} {i : Nat} (h : i ∈ Region.ready md ops listed) (hs : listed.size = ops.size) : ∃ hi : i < listed.size, listed[i] = false := by
 unfold Region.ready at h
 rw [List.mem_filter, List.mem_range] at h
 have hi : i < listed.size := by omega
 refine ⟨hi, ?_⟩
 have h2 := h.2
 rw [Bool.and_eq_true] at h2
 have h3 := h2.1
 simp [Array.getD, hi] at h3
 exact h3
theorem ready_noneI {md : Region.Mode} {ops : Array Oper} {listed : Array Bool} (hs : listed.size = ops.size) (h : listed.toList.count false = 0) : Region.ready md ops listed = [] := by
 rw [List.eq_nil_iff_forall_not_mem]
 intro i hi
 obtain ⟨h1, h2⟩ := ready_unlistedI hi hs
 rw [List.count_eq_zero] at h
 apply h
 rw [← h2]
 simp
theorem wpAnyIn_inv {F : Fence} {n : Nat} {P : Program} {md : Region.Mode} {ops : Array Oper} {Q : Exit → Act → World → Prop} (I : Array Bool → Act → World → Prop)
  (hstep : ∀ (listed : Array Bool) (a : Act) (w : World) (i : Nat), listed.size = ops.size → I listed a w → i ∈ Region.ready md ops listed → wpOpIn F n P ops Q i (fun a' w' => I (listed.setIfInBounds i true) a' w') a w)
  (hend : ∀ (listed : Array Bool) (a : Act) (w : World), listed.size = ops.size → Region.ready md ops listed = [] → I listed a w → Q .normal a w) :
  ∀ (fuel : Nat) (listed : Array Bool) (a : Act) (w : World), listed.size = ops.size → listed.toList.count false ≤ fuel → I listed a w → wpAnyIn F n P md ops Q fuel listed a w
 | 0, listed, a, w, hs, hc, hI => by
  have hr := ready_noneI (md := md) hs (by omega)
  exact ⟨hr, hend listed a w hs hr hI⟩
 | fuel + 1, listed, a, w, hs, hc, hI => by
  refine ⟨fun hr => hend listed a w hs hr hI, fun i hi => wpOpIn_mono (fun a' w' h' => ?_) (hstep listed a w i hs hI hi)⟩
  obtain ⟨h1, h2⟩ := ready_unlistedI hi hs
  refine wpAnyIn_inv I hstep hend fuel _ a' w' (by simpa using hs) ?_ h'
  have hl : (listed.setIfInBounds i true).toList = listed.toList.set i true := by simp
  have h3 : listed.toList[i]'(by simpa using h1) = false := by simpa using h2
  rw [hl, List.count_set (by simpa using h1), h3]
  have h4 : listed.toList.count false - 1 + 0 ≤ fuel := by omega
  exact h4
theorem region_inv_in {F : Fence} {n : Nat} {P : Program} {ops : Array Oper} {Q : Exit → Act → World → Prop} {id : Nat} {a : Act} {w : World} (hm : P.follows .mixedOrders = true) (I : Array Bool → Act → World → Prop)
  (h0 : I (Array.replicate ops.size false) a { w with drawn := w.drawn + 1 })
  (hstep : ∀ (listed : Array Bool) (a : Act) (w : World) (i : Nat), listed.size = ops.size → I listed a w → i ∈ Region.ready .any ops listed → wpOpIn F n P ops Q i (fun a' w' => I (listed.setIfInBounds i true) a' w') a w)
  (hend : ∀ (listed : Array Bool) (a : Act) (w : World), listed.size = ops.size → Region.ready .any ops listed = [] → I listed a w → Q .normal a w) : (Code.region id ops true).wpIn F n P Q a w :=
 wpIn_region_any hm (wpAnyIn_inv I hstep hend ops.size _ a _ (by simp) (by simp) h0)
end Go.Proofs.Ytbkeneadoccodaa
