/- An argument that is a slice of bytes or of numbers, opened to a list. -/
import Derived.Test.YtdlmadckpcnkoaaGreatM6
import Derived.ChangeSlices
import Derived.OpenShut
import Derived.WideShapes
namespace Go.Proofs.YtdlmadckpcnkoaaGreat
open Go.RowKit Go Go.ChangeShapes Go.WideShapes
set_option linter.unusedVariables false

/-- v is a slice whose numbers are Z. -/
def RdI (w : World) (v : Value) (Z : List Int) : Prop :=
  (v = .slice none 0 0 ∧ Z = []) ∨ ∃ b o cap, v = .slice (some ⟨b, o, none⟩) Z.length cap ∧ Z.length ≤ cap ∧ cap ≤ maxLen ∧ ∀ (i : Nat) (z : Int), Z[i]? = some z → w.cell? ⟨b, o + i, none⟩ = some (.int .i64 z)
theorem okWide_spot {P : Program} {w : World} {r : Reach} {base : Nat} {t e : TypeId} {a : Option Addr} {len cap : Nat} (ht : P.underlying t = some (.slice e)) (h : Value.okWide P w r base t (.slice a len cap)) : ∀ x, a = some x → x.spot = none := by
  rintro x rfl
  simp only [Value.okWide, ht, Cell.okWide, Cell.ok] at h
  exact h.2.2.2.1
theorem getD_some (zs : List Int) (i : Nat) (h : i < zs.length) : zs.getD i 0 = zs[i] := by simp [List.getD, h]
theorem open_bytes {P : Program} {H : Type} {enc : TypeId × Value → H} {w : World} {base t e fuel : Nat} {a : Option Addr} {len cap : Nat} {d : DataW H} {ps : List MemPlace} (ht : P.underlying t = some (.slice e)) (he : P.underlying e = some (.int .u8)) (hc : P.cellsOf e = 1) (hsp : ∀ x, a = some x → x.spot = none)
    (hf : DataW.trod enc P w base (fun _ => true) true fuel t [.slice a len cap] = some (d, ps)) : ∃ L : Bs, RdB w (.slice a len cap) L := by
  rcases open_ints ht he hc hf with ⟨hcs, hx⟩ | ⟨a', len', cap', zs, hcs, _, hl, hm, hz, hx, hcell, hwz⟩
  · simp at hcs
    obtain ⟨rfl, rfl, rfl⟩ := hcs
    exact ⟨[], .inl ⟨rfl, rfl⟩⟩
  · simp at hcs
    obtain ⟨rfl, rfl, rfl⟩ := hcs
    simp only [if_true] at hz
    obtain ⟨b, o, sp⟩ := a'
    have hs := hsp _ rfl
    simp only at hs
    subst hs
    have hlen : ((zs.take len).map fun n => UInt8.ofNat n.toNat).length = len := by simp; omega
    refine ⟨(zs.take len).map fun n => UInt8.ofNat n.toNat, .inr ⟨b, o, cap, by rw [hlen], by omega, hm, fun i c hi => ?_⟩⟩
    have hil : i < len := by
      have := (List.getElem?_eq_some_iff.1 hi).1
      omega
    have hiz : i < zs.length := by omega
    rw [← add_plain, hcell i hiz, getD_some zs i hiz]
    rw [List.getElem?_map, List.getElem?_take_of_lt hil, List.getElem?_eq_getElem hiz] at hi
    simp only [Option.map_some, Option.some.injEq] at hi
    have hb := bounds_u8 (hwz zs[i] (List.getElem_mem hiz))
    rw [← hi]
    congr 2
    have h1 : (UInt8.ofNat (zs[i]).toNat).toNat = (zs[i]).toNat := by
      rw [UInt8.toNat_ofNat']
      exact Nat.mod_eq_of_lt (by omega)
    rw [h1]
    omega
theorem open_nums {P : Program} {H : Type} {enc : TypeId × Value → H} {w : World} {base t e fuel : Nat} {a : Option Addr} {len cap : Nat} {d : DataW H} {ps : List MemPlace} (ht : P.underlying t = some (.slice e)) (he : P.underlying e = some (.int .i64)) (hc : P.cellsOf e = 1) (hsp : ∀ x, a = some x → x.spot = none)
    (hf : DataW.trod enc P w base (fun _ => true) true fuel t [.slice a len cap] = some (d, ps)) : ∃ Z : List Int, RdI w (.slice a len cap) Z ∧ ∀ z ∈ Z, -9223372036854775808 ≤ z ∧ z ≤ 9223372036854775807 := by
  rcases open_ints ht he hc hf with ⟨hcs, hx⟩ | ⟨a', len', cap', zs, hcs, _, hl, hm, hz, hx, hcell, hwz⟩
  · simp at hcs
    obtain ⟨rfl, rfl, rfl⟩ := hcs
    exact ⟨[], .inl ⟨rfl, rfl⟩, by simp⟩
  · simp at hcs
    obtain ⟨rfl, rfl, rfl⟩ := hcs
    simp only [if_true] at hz
    obtain ⟨b, o, sp⟩ := a'
    have hs := hsp _ rfl
    simp only at hs
    subst hs
    have hlen : (zs.take len).length = len := by simp; omega
    refine ⟨zs.take len, .inr ⟨b, o, cap, by rw [hlen], by omega, hm, fun i c hi => ?_⟩, fun z hz' => bounds_i64 (hwz z (List.mem_of_mem_take hz'))⟩
    have hil : i < len := by
      have := (List.getElem?_eq_some_iff.1 hi).1
      omega
    have hiz : i < zs.length := by omega
    rw [← add_plain, hcell i hiz, getD_some zs i hiz]
    rw [List.getElem?_take_of_lt hil, List.getElem?_eq_getElem hiz] at hi
    simp only [Option.some.injEq] at hi
    rw [hi]
end Go.Proofs.YtdlmadckpcnkoaaGreat
