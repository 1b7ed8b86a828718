/- An argument that is a slice of texts or of numbers, opened to a list, with its length told by its reading. -/
import Derived.Test.YtogbieehpppnaaaPoolTexts
import Derived.SliceStrings
import Derived.SizedLaws
namespace Go.Proofs.Ytogbieehpppnaaa
open Go.RowKit Go Go.ChangeShapes Go.WideShapes
set_option linter.unusedVariables false

/-- The reading d has as many elements. -/
def Long {H : Type} (d : DataW H) (n : Nat) : Prop := n = 0 ∨ ∃ el sp : List (DataW H), d = .slice el sp ∧ el.length = n
theorem open_texts {P : Program} {H : Type} {enc : TypeId × Value → H} {w : World} {base t e fuel : Nat} {a : Option Addr} {len cap : Nat} {d : DataW H} {ps : List MemPlace} (ht : P.underlying t = some (.slice e)) (he : P.underlying e = some .string) (hc : P.cellsOf e = 1) (hsp : ∀ x, a = some x → x.spot = none)
    (hf : DataW.trod enc P w base (fun _ => true) true fuel t [.slice a len cap] = some (d, ps)) : ∃ T : List ByteArray, RdT w (.slice a len cap) T ∧ Long d T.length := by
  rcases open_strings ht he hc hf with ⟨hcs, hx⟩ | ⟨a', len', cap', ss, hcs, _, hl, hm, hz, hx, hcell, hsz⟩
  · simp at hcs
    obtain ⟨rfl, rfl, rfl⟩ := hcs
    exact ⟨[], ⟨none, 0, rfl, fun i s h => by simp at h⟩, .inl rfl⟩
  · simp at hcs
    obtain ⟨rfl, rfl, rfl⟩ := hcs
    simp only [Prod.mk.injEq] at hx
    simp only [if_true] at hz
    obtain ⟨b, o, sp⟩ := a'
    have hs := hsp _ rfl
    simp only at hs
    subst hs
    have hlen : (ss.take len).length = len := by simp; omega
    refine ⟨ss.take len, ⟨some ⟨b, o, none⟩, cap, by rw [hlen], fun i s hi => ⟨b, o, rfl, ?_⟩⟩, .inr ⟨_, _, hx.1, by simp [strs]⟩⟩
    have hil : i < len := by
      have := (List.getElem?_eq_some_iff.1 hi).1
      omega
    rw [← add_plain, hcell i (by omega)]
    rw [List.getElem?_take_of_lt hil] at hi
    simp [List.getD, hi]
theorem open_longs {P : Program} {H : Type} {enc : TypeId × Value → H} {w : World} {base t e fuel : Nat} {a : Option Addr} {len cap : Nat} {d : DataW H} {ps : List MemPlace} (ht : P.underlying t = some (.slice e)) (he : P.underlying e = some (.int .i64)) (hc : P.cellsOf e = 1) (hsp : ∀ x, a = some x → x.spot = none)
    (hf : DataW.trod enc P w base (fun _ => true) true fuel t [.slice a len cap] = some (d, ps)) : ∃ Z : List Int, RdI w (.slice a len cap) Z ∧ Long d Z.length ∧ ∀ z ∈ Z, -9223372036854775808 ≤ z ∧ z ≤ 9223372036854775807 := by
  obtain ⟨Z, h1, h2⟩ := open_nums ht he hc hsp hf
  refine ⟨Z, h1, ?_, h2⟩
  have hZ : Z.length = len := by
    rcases h1 with ⟨h, rfl⟩ | ⟨b, o, c, h, _⟩
    · cases h
      rfl
    · cases h
      rfl
  rw [hZ]
  rcases open_ints ht he hc hf with ⟨hcs, hx⟩ | ⟨a', len', cap', zs, hcs, _, hl, hm, hz, hx, hcell, hwz⟩
  · simp at hcs
    exact .inl hcs.2.1
  · simp at hcs
    obtain ⟨rfl, rfl, rfl⟩ := hcs
    simp only [if_true] at hz
    simp only [Prod.mk.injEq] at hx
    exact .inr ⟨_, _, hx.1, by simp [lits]; omega⟩
theorem long_bound {H : Type} {P : Program} {ts : List TypeId} {ds : List (DataW H)} {d : DataW H} {n j : Nat} {t e : TypeId} (h : Long d n) (hsz : (DataW.weightsEach P ts ds).all (· ≤ reachBytes) = true) (ht : ts[j]? = some t) (hd : ds[j]? = some d) (hu : P.underlying t = some (.slice e)) (hb : 0 < P.bytesOf e) : n ≤ 140737488355328 := by
  rcases h with rfl | ⟨el, sp, rfl, rfl⟩
  · omega
  · have h1 := sized_slice hsz ht hd hu
    have h2 := reachBytes_lt
    have h3 : (el.length + sp.length) * 1 ≤ (el.length + sp.length) * P.bytesOf e := Nat.mul_le_mul_left _ hb
    omega
end Go.Proofs.Ytogbieehpppnaaa
