/- Who stands above whom, in plain words. -/
import Derived.Test.YtkphpihggbbpkaaKinHas
namespace Go.Proofs.Ytkphpihggbbpkaa
open Go.RowKit Go Go.Maps
set_option linter.unusedVariables false

theorem nodup_len : ∀ (l m : List Bs), l.Nodup → (∀ x ∈ l, x ∈ m) → l.length ≤ m.length
  | [], _, _, _ => Nat.zero_le _
  | a :: l, m, h, hm => by
    rw [List.nodup_cons] at h
    have ha : a ∈ m := hm a (by simp)
    have := nodup_len l (m.erase a) h.2 (fun x hx => (List.mem_erase_of_ne (fun e => h.1 (by rw [← e]; exact hx))).2 (hm x (by simp [hx])))
    rw [List.length_erase_of_mem ha] at this
    have h0 : 0 < m.length := List.length_pos_of_mem ha
    simp only [List.length_cons]
    omega
/-- Parent and interfaces of a class, as far as they are there. -/
def kinOf (L : List ClI) (c : ClI) : List Bs := (if (findC L c.super).isSome then [c.super] else []) ++ c.ifaces
def nxt (L : List ClI) (s : Bs) : List Bs := match findC L s with | none => [] | some c => kinOf L c
inductive Rch (L : List ClI) : Bs → Bs → Prop
  | refl (x : Bs) : Rch L x x
  | step {x y z : Bs} : y ∈ nxt L x → Rch L y z → Rch L x z
theorem Rch.trans {L : List ClI} {x y z : Bs} (h : Rch L x y) (k : Rch L y z) : Rch L x z := by
  induction h with
  | refl => exact k
  | step h1 _ ih => exact .step h1 (ih k)
def names (L : List ClI) : List Bs := L.map ClI.name
/-- Whoever is named as a parent or an interface is there; nobody has no name. -/
def Closed (L : List ClI) : Prop := (∀ c ∈ L, ∀ i ∈ c.ifaces, i ∈ names L) ∧ [] ∉ names L
theorem names_find {L : List ClI} {s : Bs} (h : s ∈ names L) : ∃ c, findC L s = some c := by
  cases hf : findC L s with
  | none => exact absurd h (findC_none.1 hf)
  | some c => exact ⟨c, rfl⟩
theorem find_names {L : List ClI} {s : Bs} {c : ClI} (h : findC L s = some c) : s ∈ names L := by
  have := findC_some h
  rw [← this.2]
  exact List.mem_map_of_mem this.1
theorem kinOf_in {L : List ClI} (hC : Closed L) {c : ClI} (hc : c ∈ L) : ∀ n ∈ kinOf L c, n ∈ names L := by
  intro n hn
  unfold kinOf at hn
  rcases List.mem_append.1 hn with hn | hn
  · split at hn
    · rename_i h
      simp at hn
      subst hn
      obtain ⟨y, hy⟩ := Option.isSome_iff_exists.1 h
      exact find_names hy
    · cases hn
  · exact hC.1 c hc n hn
/-- What a gathering does to a set. -/
structure Gat (L : List ClI) (S S' : List Bs) (ns : List Bs) : Prop where
  old : ∀ z ∈ S, z ∈ S'
  all : ∀ n ∈ ns, n ∈ S'
  only : ∀ z ∈ S', z ∈ S ∨ ∃ n ∈ ns, Rch L n z
  closed : ∀ z ∈ S', z ∉ S → ∀ y ∈ nxt L z, y ∈ S'
theorem Gat.refl (L : List ClI) (S : List Bs) : Gat L S S [] := ⟨fun _ h => h, fun _ h => by simp at h, fun _ h => .inl h, fun z h h' => absurd h h'⟩
theorem Gat.one (L : List ClI) {S : List Bs} {s : Bs} (h : s ∈ S) : Gat L S S [s] := ⟨fun _ h => h, fun n hn => by simp at hn; subst hn; exact h, fun _ h => .inl h, fun z h h' => absurd h h'⟩
theorem Gat.trans {L : List ClI} {S S' S'' ns ms : List Bs} (h : Gat L S S' ns) (k : Gat L S' S'' ms) : Gat L S S'' (ns ++ ms) := by
  refine ⟨fun z hz => k.old z (h.old z hz), fun n hn => ?_, fun z hz => ?_, fun z hz hn y hy => ?_⟩
  · rcases List.mem_append.1 hn with hn | hn
    · exact k.old n (h.all n hn)
    · exact k.all n hn
  · rcases k.only z hz with h1 | ⟨n, hn, h1⟩
    · rcases h.only z h1 with h2 | ⟨n, hn, h2⟩
      · exact .inl h2
      · exact .inr ⟨n, List.mem_append_left _ hn, h2⟩
    · exact .inr ⟨n, List.mem_append_right _ hn, h1⟩
  · by_cases hz' : z ∈ S'
    · exact k.old y (h.closed z hz' hn y hy)
    · exact k.closed z hz hz' y hy
theorem Gat.into {L : List ClI} {S S' : List Bs} {s : Bs} {c : ClI} (hc : findC L s = some c) (h : Gat L (s :: S) S' (kinOf L c)) : Gat L S S' [s] := by
  have hn : nxt L s = kinOf L c := by unfold nxt; rw [hc]
  refine ⟨fun z hz => h.old z (by simp [hz]), fun n hn => by simp at hn; subst hn; exact h.old n (by simp), fun z hz => ?_, fun z hz hz' y hy => ?_⟩
  · rcases h.only z hz with h1 | ⟨n, hn', h1⟩
    · rcases List.mem_cons.1 h1 with h1 | h1
      · exact .inr ⟨s, by simp, by rw [h1]; exact .refl _⟩
      · exact .inl h1
    · exact .inr ⟨s, by simp, .step (by rw [hn]; exact hn') h1⟩
  · by_cases e : z = s
    · subst e
      rw [hn] at hy
      exact h.all y hy
    · exact h.closed z hz (by simp [e, hz']) y hy
/-- A gathering from nothing finds just those above. -/
theorem Gat.exact {L : List ClI} {S' ns : List Bs} (h : Gat L [] S' ns) (z : Bs) : z ∈ S' ↔ ∃ n ∈ ns, Rch L n z := by
  constructor
  · intro hz
    rcases h.only z hz with h1 | h1
    · cases h1
    · exact h1
  · rintro ⟨n, hn, hr⟩
    have hn' := h.all n hn
    clear hn
    induction hr with
    | refl => exact hn'
    | step h1 _ ih => exact ih (h.closed _ hn' (by simp) _ h1)
end Go.Proofs.Ytkphpihggbbpkaa
