/- Contract of the document's one. -/
import Derived.Test.YtbkeneadoccodaaJCInsRChk3a
import Derived.Test.YtbkeneadoccodaaJCInsRChk3b
import Derived.Test.YtbkeneadoccodaaJCInsRChk3c
namespace Go.Proofs.Ytbkeneadoccodaa
open Go.RowKit Go
set_option linter.unusedVariables false
set_option linter.unusedSimpArgs false
theorem signs_all (c : Int) : rowT c = [] ∨ (∃ s0 s1 s2 s3, rowT c = [s0, s1, s2, s3] ∧ s0 ∈ signs ∧ s1 ∈ signs ∧ s2 ∈ signs ∧ s3 ∈ signs) := by
 have key : ∀ l : Bs, (l = [] ∨ l.length = 4 ∧ l.all (fun s => decide (s ∈ signs)) = true) → l = [] ∨ (∃ s0 s1 s2 s3, l = [s0, s1, s2, s3] ∧ s0 ∈ signs ∧ s1 ∈ signs ∧ s2 ∈ signs ∧ s3 ∈ signs) := by
  rintro l (h | ⟨h, h2⟩)
  ·exact .inl h
  ·match l, h with
   | [s0, s1, s2, s3], _ =>
    simp only [List.all_cons, List.all_nil, Bool.and_true, Bool.and_eq_true, decide_eq_true_eq] at h2
    exact .inr ⟨_, _, _, _, rfl, h2⟩
 refine key _ ?_
 refine all_ops (Q := fun c => rowT c = [] ∨ (rowT c).length = 4 ∧ (rowT c).all (fun s => decide (s ∈ signs)) = true) (by decide +kernel) (fun c hc => .inl (out_of c hc).2.2.2.2.2.2.2.2) c
theorem rone_any {P Q : Nat → Prop} (rs : List Int) (fa fb : Value) (ret : Int) (D : Option Addr) (n dcap : Nat) (fe : Value) (x : InI) (v : Value) (w : World) (h : Hid (RdX P 1 NuE w fa rs)) (hv : Hid (RdX Q 1 NuE w v x.args)) (hr : Hid (x.ref.length ≤ maxLen)) :
  Calls Try.prog 24 #[fuL fa fb ret (.slice D n dcap) fe, inA x v] w fun e w' => e = .returned (.bool (oneD rs ret n x)) ∧ Below w.heap.size w w' := by
 obtain ⟨c, d, a, b, k, num, t, r, l⟩ := x
 rcases signs_all c with he | ⟨s0, s1, s2, s3, he, h0, h1, h2, h3⟩
 ·have := rone_none rs fa fb ret D n dcap fe c d a b k num t r l v w h hv hr he
  have e2 : oneD rs ret n ⟨c, d, a, b, k, num, t, r, l⟩ = false := by
   unfold oneD
   dsimp only
   rw [he]
   rfl
  rw [e2]
  exact this
 ·have hsz : (tx [s0, s1, s2, s3]).size = 4 := by rw [tx_size]; rfl
  have b0 : 0 < (tx [s0, s1, s2, s3]).size := by omega
  have b1 : 1 < (tx [s0, s1, s2, s3]).size := by omega
  have b2 : 2 < (tx [s0, s1, s2, s3]).size := by omega
  have b3 : 3 < (tx [s0, s1, s2, s3]).size := by omega
  have HS : Hid ((tx [s0, s1, s2, s3])[0] = sg c 0 ∧ (tx [s0, s1, s2, s3])[1] = sg c 1 ∧ (tx [s0, s1, s2, s3])[2] = sg c 2 ∧ (tx [s0, s1, s2, s3])[3] = sg c 3) := lhid (by
   unfold sg
   rw [he]
   exact ⟨rfl, rfl, rfl, rfl⟩)
  have HI : Hid ((tx [s0, s1, s2, s3])[0] ∈ signs ∧ (tx [s0, s1, s2, s3])[1] ∈ signs ∧ (tx [s0, s1, s2, s3])[2] ∈ signs ∧ (tx [s0, s1, s2, s3])[3] ∈ signs) := lhid ⟨h0, h1, h2, h3⟩
  have HN : Hid ((rowT c == []) = false) := lhid (by rw [he]; rfl)
  have HV : Hid (tx (rowT c) = tx [s0, s1, s2, s3]) := lhid (by rw [he])
  have q1 : ((tx [s0, s1, s2, s3]).toList == ([] : Bs)) = false := by rw [tx_toL]; rfl
  have q2 : (tx [s0, s1, s2, s3]).toList.isEmpty = false := by rw [tx_toL]; rfl
  have q4 : ¬ (tx [s0, s1, s2, s3]).toList = [] := by rw [tx_toL]; simp
  by_cases ga : c = 1 ∨ c = 4 ∨ c = 5 ∨ c = 6
  ·exact rone_a rs fa fb ret D n dcap fe c d a b k num t r l v w h hv hr _ b0 b1 b2 b3 HV HS HI HN q1 q2 q4 ga
  by_cases gb : c = 12 ∨ c = 21 ∨ c = 22 ∨ c = 16 ∨ c = 17 ∨ c = 23 ∨ c = 24 ∨ c = 25 ∨ c = 26
  ·exact rone_b rs fa fb ret D n dcap fe c d a b k num t r l v w h hv hr _ b0 b1 b2 b3 HV HS HI HN q1 q2 q4 gb
  ·exact rone_c rs fa fb ret D n dcap fe c d a b k num t r l v w h hv hr _ b0 b1 b2 b3 HV HS HI HN q1 q2 q4 (by omega)
end Go.Proofs.Ytbkeneadoccodaa
