/- What a tree that is taken is: rooted, closed, without circles. -/
import Derived.Test.YtkphpihggbbpkaaKinNew
namespace Go.Proofs.Ytkphpihggbbpkaa
open Go.RowKit Go Go.Maps
set_option linter.unusedVariables false

theorem newE_zero {l : List ClI} (h : NewE l 0) : l.length ≤ 40 ∧ l.any misB = false ∧ (names (ownL ++ l)).Nodup ∧ KinOK (ownL ++ l) l ∧ ∀ s ∈ names (ownL ++ l), ¬ Circ (ownL ++ l) s := by
  unfold NewE at h
  rcases h with ⟨_, h⟩ | ⟨h1, ⟨_, h⟩ | ⟨h2, ⟨_, h⟩ | ⟨h3, ⟨_, h⟩ | ⟨h4, ⟨_, h⟩ | ⟨h5, _⟩⟩⟩⟩⟩
  all_goals first
    | exact ⟨h1, h2, h3, h4, h5⟩
    | exact absurd h (by decide)
/-- The parent of a class that is there is there, but Object's. -/
def Rooted (L : List ClI) : Prop := ∀ c ∈ L, c.name = nObject ∨ (findC L c.super).isSome = true
theorem super_in {L : List ClI} {s : Bs} {c : ClI} (hc : findC L s = some c) (h : (findC L c.super).isSome = true) : c.super ∈ nxt L s := by
  have hn : nxt L s = kinOf L c := by unfold nxt; rw [hc]
  rw [hn]
  unfold kinOf
  rw [if_pos h]
  simp
theorem to_object {L : List ClI} (hR : Rooted L) (hN : ∀ s ∈ names L, ¬ Circ L s) : ∀ (k : Nat) (p : List Bs) (s : Bs), (names L).length ≤ p.length + k → p.Nodup → (∀ z ∈ p, z ∈ names L) → s ∈ p → (∀ z ∈ p, z = s ∨ ∃ n ∈ nxt L z, Rch L n s) → Rch L s nObject := by
  intro k
  induction k with
  | zero =>
    intro p s hk hp hin hs hr
    obtain ⟨c, hc⟩ := names_find (hin s hs)
    have hcl := findC_some hc
    rcases hR c hcl.1 with h | h
    · rw [← hcl.2, h]; exact .refl _
    · obtain ⟨y, hy⟩ := Option.isSome_iff_exists.1 h
      have hyn := super_in hc h
      have hyp : c.super ∉ p := fun hm => by
        rcases hr _ hm with e | ⟨n, hn, hnr⟩
        · exact hN _ (find_names hy) ⟨c.super, by rw [e] at hyn ⊢; exact hyn, .refl _⟩
        · exact hN _ (find_names hy) ⟨n, hn, hnr.trans (.step hyn (.refl _))⟩
      have := nodup_len (c.super :: p) (names L) (List.nodup_cons.2 ⟨hyp, hp⟩) (fun x hx => by rcases List.mem_cons.1 hx with h | h; rw [h]; exact find_names hy; exact hin x h)
      simp only [List.length_cons] at this
      omega
  | succ k ih =>
    intro p s hk hp hin hs hr
    obtain ⟨c, hc⟩ := names_find (hin s hs)
    have hcl := findC_some hc
    rcases hR c hcl.1 with h | h
    · rw [← hcl.2, h]; exact .refl _
    · obtain ⟨y, hy⟩ := Option.isSome_iff_exists.1 h
      have hyn := super_in hc h
      have hyp : c.super ∉ p := fun hm => by
        rcases hr _ hm with e | ⟨n, hn, hnr⟩
        · exact hN _ (find_names hy) ⟨c.super, by rw [e] at hyn ⊢; exact hyn, .refl _⟩
        · exact hN _ (find_names hy) ⟨n, hn, hnr.trans (.step hyn (.refl _))⟩
      refine .step hyn (ih (c.super :: p) c.super (by simp only [List.length_cons]; omega) (List.nodup_cons.2 ⟨hyp, hp⟩) (fun x hx => by rcases List.mem_cons.1 hx with h | h; rw [h]; exact find_names hy; exact hin x h) (by simp) (fun z hz => ?_))
      rcases List.mem_cons.1 hz with e | hz
      · exact .inl e
      · rcases hr z hz with e | ⟨n, hn, hnr⟩
        · exact .inr ⟨c.super, by rw [e]; exact hyn, .refl _⟩
        · exact .inr ⟨n, hn, hnr.trans (.step hyn (.refl _))⟩
theorem above_object {L : List ClI} (hR : Rooted L) (hN : ∀ s ∈ names L, ¬ Circ L s) {s : Bs} (hs : s ∈ names L) : Rch L s nObject :=
  to_object hR hN (names L).length [s] s (by simp) (by simp) (fun z hz => by simp at hz; rw [hz]; exact hs) (by simp) (fun z hz => .inl (by simpa using hz))
theorem rch_in {L : List ClI} (hC : Closed L) {s z : Bs} (hs : s ∈ names L) (h : Rch L s z) : z ∈ names L := by
  induction h with
  | refl => exact hs
  | step h1 _ ih =>
    refine ih ?_
    unfold nxt at h1
    obtain ⟨c, hc⟩ := names_find hs
    rw [hc] at h1
    exact kinOf_in hC (findC_some hc).1 _ h1
theorem mayB_there {L : List ClI} {c : ClI} {s : Bs} (h : mayB L c s = true) : (findC L s).isSome = true := by
  unfold mayB at h
  cases hf : findC L s with
  | none => rw [hf] at h; cases h
  | some y => rfl
theorem rooted_all {l : List ClI} (hk : KinOK (ownL ++ l) l) : Rooted (ownL ++ l) := by
  intro c hc
  rcases List.mem_append.1 hc with hc | hc
  · obtain ⟨c0, hc0, rfl⟩ := List.mem_map.1 hc
    have hall : ∀ c ∈ own0, c.name = nObject ∨ (findC ownL c.super).isSome = true := by
      intro c hc
      simp only [own0, List.mem_cons, List.not_mem_nil, or_false] at hc
      rcases hc with rfl | rfl | rfl | rfl | rfl | rfl | rfl | rfl | rfl | rfl | rfl | rfl | rfl <;> decide
    rcases hall c0 hc0 with h | h
    · exact .inl h
    · refine .inr ?_
      obtain ⟨y, hy⟩ := Option.isSome_iff_exists.1 h
      have : findC (ownL ++ l) c0.super = some y := by
        unfold findC at hy ⊢
        rw [List.find?_append, hy]
        rfl
      show (findC (ownL ++ l) c0.super).isSome = true
      rw [this]
      rfl
  · exact .inr (mayB_there (hk c hc).1)
theorem obj_find (l : List ClI) : ∃ c, findC (ownL ++ l) nObject = some c ∧ c.super = [] ∧ c.ifaces = [] := by
  have h0 : ∃ y, findC ownL nObject = some y ∧ y.super = [] ∧ y.ifaces = [] := ⟨_, rfl, rfl, rfl⟩
  obtain ⟨y, hy, hs⟩ := h0
  refine ⟨y, ?_, hs⟩
  unfold findC at hy ⊢
  rw [List.find?_append, hy]
  rfl
theorem obj_super {l : List ClI} {c : ClI} (h : findC (ownL ++ l) nObject = some c) : c.super = [] := by
  obtain ⟨y, hy, hs, _⟩ := obj_find l
  rw [hy] at h
  injection h with h
  rw [← h]
  exact hs
theorem obj_nxt {l : List ClI} (hC : Closed (ownL ++ l)) : nxt (ownL ++ l) nObject = [] := by
  obtain ⟨y, hy, hs, hi⟩ := obj_find l
  have hn : findC (ownL ++ l) [] = none := findC_none.2 hC.2
  unfold nxt
  rw [hy]
  show kinOf (ownL ++ l) y = []
  unfold kinOf
  rw [hs, hn, hi]
  rfl
theorem par_of {L : List ClI} (hC : Closed L) (hR : Rooted L) (hO : ∀ c, findC L nObject = some c → c.super = []) {n : Bs} {c : ClI} (hf : findC L n = some c) {p : Bs} (hp : p = c.super ∨ p ∈ c.ifaces) (hne : ¬ p = []) : p ∈ names L ∧ p ∈ nxt L n := by
  have hc := findC_some hf
  have hn : nxt L n = kinOf L c := by unfold nxt; rw [hf]
  rcases hp with rfl | hp
  · rcases hR c hc.1 with h | h
    · exact absurd (hO c (by rw [← h, hc.2]; exact hf)) hne
    · obtain ⟨y, hy⟩ := Option.isSome_iff_exists.1 h
      exact ⟨find_names hy, super_in hf h⟩
  · exact ⟨hC.1 c hc.1 p hp, by rw [hn]; unfold kinOf; exact List.mem_append_right _ hp⟩
end Go.Proofs.Ytkphpihggbbpkaa
