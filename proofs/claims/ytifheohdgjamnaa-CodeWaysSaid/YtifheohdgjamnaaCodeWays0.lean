/- Code of instructions of one, two and three bytes with a way behind, in plain words. No program in this text. -/
import Derived.Test.YtifheohdgjamnaaCodeEnc
namespace Go.Proofs.Ytifheohdgjamnaa
open Go.RowKit Go
set_option linter.unusedVariables false

def r3 (z : Int) : Int := (z.tmod 3 + 3).tmod 3
theorem tmod_in (z : Int) (n : Int) (hn : 0 < n) : -n < z.tmod n ∧ z.tmod n < n := by
  have h1 := Int.tmod_lt_of_pos z hn
  have h2 := Int.lt_tmod_of_pos z hn
  omega
theorem tmod_pos' {x n : Int} (hx : 0 ≤ x) : x.tmod n = x % n := Int.tmod_eq_emod_of_nonneg hx
theorem r3_in (z : Int) : r3 z = 0 ∨ r3 z = 1 ∨ r3 z = 2 := by
  have h := tmod_in z 3 (by omega)
  unfold r3
  rw [tmod_pos' (by omega)]
  omega
def insB (z : Int) : Bs := if r3 z = 0 then [0] else if r3 z = 1 then [16, 5] else [17, 1, 1]
def cod (Z : List Int) : Bs := Z.flatMap insB
def pl (Z : List Int) (k : Nat) : Nat := (cod (Z.take k)).length
theorem insB_len (z : Int) : 1 ≤ (insB z).length ∧ (insB z).length ≤ 3 := by
  unfold insB
  split
  · simp
  split <;> simp
theorem cod_on {Z : List Int} {k : Nat} {z : Int} (h : Z[k]? = some z) : cod (Z.take (k + 1)) = cod (Z.take k) ++ insB z := by
  unfold cod
  rw [List.take_add_one, h]
  simp
theorem pl_on {Z : List Int} {k : Nat} {z : Int} (h : Z[k]? = some z) : pl Z (k + 1) = pl Z k + (insB z).length := by unfold pl; rw [cod_on h, List.length_append]
theorem pl_zero (Z : List Int) : pl Z 0 = 0 := rfl
theorem pl_end (Z : List Int) : pl Z Z.length = (cod Z).length := by unfold pl; rw [List.take_length]
theorem pl_lt {Z : List Int} {k : Nat} (h : k < Z.length) : pl Z k < pl Z (k + 1) := by
  rw [pl_on (List.getElem?_eq_getElem h)]
  have := (insB_len Z[k]).1
  omega
theorem pl_mono (Z : List Int) : ∀ (d k : Nat), k + d ≤ Z.length → pl Z k ≤ pl Z (k + d)
  | 0, k, _ => Nat.le_refl _
  | d + 1, k, h => Nat.le_trans (pl_mono Z d k (by omega)) (Nat.le_of_lt (pl_lt (by omega)))
theorem pl_le {Z : List Int} {k : Nat} (h : k ≤ Z.length) : pl Z k ≤ (cod Z).length := by
  have := pl_mono Z (Z.length - k) k (by omega)
  rwa [show k + (Z.length - k) = Z.length by omega, pl_end] at this
theorem pl_3 (Z : List Int) : ∀ k, k ≤ Z.length → pl Z k ≤ 3 * k
  | 0, _ => by rw [pl_zero]; omega
  | k + 1, h => by
    rw [pl_on (List.getElem?_eq_getElem (by omega : k < Z.length))]
    have := pl_3 Z k (by omega)
    have := (insB_len Z[k]).2
    omega
theorem bN_app (A B : Bs) (j : Nat) : bN (A ++ B) (A.length + j) = bN B j := by
  unfold bN
  rw [List.getD_eq_getElem?_getD, List.getD_eq_getElem?_getD, List.getElem?_append_right (by omega), show A.length + j - A.length = j by omega]
def ops (F : Bs) (Z : List Int) (k : Nat) : List Cop := (List.range k).map fun j => opAt F (pl Z j)
theorem ops_on (F : Bs) (Z : List Int) (k : Nat) : ops F Z (k + 1) = ops F Z k ++ [opAt F (pl Z k)] := by unfold ops; rw [List.range_succ, List.map_append]; rfl
theorem ops_len (F : Bs) (Z : List Int) (k : Nat) : (ops F Z k).length = k := by unfold ops; simp
/-- The code: all instructions, and behind them a way. -/
def way (Z : List Int) (a b : UInt8) : Bs := cod Z ++ [167, a, b]
theorem way_len (Z : List Int) (a b : UInt8) : (way Z a b).length = (cod Z).length + 3 := by unfold way; simp
theorem way_at {Z : List Int} {a b : UInt8} {k : Nat} {z : Int} (h : Z[k]? = some z) : bN (way Z a b) (pl Z k) = if r3 z = 0 then 0 else if r3 z = 1 then 16 else 17 := by
  have e : way Z a b = cod (Z.take k) ++ (insB z ++ ((cod (Z.drop (k + 1))) ++ [167, a, b])) := by
    have h1 : Z = Z.take (k + 1) ++ Z.drop (k + 1) := (List.take_append_drop _ _).symm
    have h2 : cod Z = cod (Z.take (k + 1)) ++ cod (Z.drop (k + 1)) := by
      conv => lhs; rw [h1]
      unfold cod
      rw [List.flatMap_append]
    unfold way
    rw [h2, cod_on h]
    simp
  have this : bN (cod (Z.take k) ++ (insB z ++ ((cod (Z.drop (k + 1))) ++ [167, a, b]))) (cod (Z.take k)).length = bN (insB z ++ ((cod (Z.drop (k + 1))) ++ [167, a, b])) 0 := bN_app _ _ 0
  rw [e]
  unfold pl
  rw [this]
  unfold insB
  split
  · rfl
  split <;> rfl
theorem way_end (Z : List Int) (a b : UInt8) : bN (way Z a b) (cod Z).length = 167 ∧ two (way Z a b) (cod Z).length = 256 * a.toNat + b.toNat := by
  unfold way two
  have h0 : bN (cod Z ++ [167, a, b]) (cod Z).length = bN [167, a, b] 0 := bN_app _ _ 0
  rw [h0, bN_app, bN_app]
  exact ⟨rfl, rfl⟩
theorem way_size {Z : List Int} {a b : UInt8} {k : Nat} {z : Int} (h : Z[k]? = some z) : szN (bN (way Z a b) (pl Z k)) = (insB z).length ∧ rowN (bN (way Z a b) (pl Z k)) ≠ 6 := by
  rw [way_at h]
  unfold insB
  split
  · exact ⟨by decide, by decide⟩
  split
  · exact ⟨by decide, by decide⟩
  · exact ⟨by decide, by decide⟩
theorem at_all (Z : List Int) (a b : UInt8) : ∀ k, k ≤ Z.length → At (way Z a b) (pl Z k) (ops (way Z a b) Z k)
  | 0, _ => At.start _
  | k + 1, h => by
    have hz : Z[k]? = some Z[k] := List.getElem?_eq_getElem (by omega)
    have hs := (way_size (a := a) (b := b) hz).1
    have hl := insB_len Z[k]
    have hle := pl_le (Z := Z) (k := k + 1) h
    have hw := way_len Z a b
    rw [pl_on hz] at hle
    have := (at_all Z a b k (by omega)).step (by omega) (by omega) (by omega)
    rw [hs, ← pl_on hz, ← ops_on] at this
    exact this
theorem run_way (Z : List Int) (a b : UInt8) : run (way Z a b) ((way Z a b).length + 1) 0 = some (ops (way Z a b) Z (Z.length + 1)) := by
  have h := at_all Z a b Z.length (Nat.le_refl _)
  have e := way_end Z a b
  have hw := way_len Z a b
  rw [pl_end] at h
  have hs : szN (bN (way Z a b) (cod Z).length) = 3 := by rw [e.1]; decide
  have h2 := h.step (by omega) (by omega) (by omega)
  rw [hs, ← hw] at h2
  have h3 := h2.done
  rw [h3, ops_on, pl_end]
theorem way_back (w : Int) (h1 : -32768 ≤ w) (h2 : w < 32768) : sg16 (256 * (by8 (w / 256)).toNat + (by8 w).toNat) = w := by
  have e1 := by8_val (w / 256)
  have e2 := by8_val w
  unfold sg16
  split <;> omega
theorem last_a (Z : List Int) (w : Int) (h1 : -32768 ≤ w) (h2 : w < 32768) : (opAt (way Z (by8 (w / 256)) (by8 w)) (cod Z).length).a = (cod Z).length + w ∧ (opAt (way Z (by8 (w / 256)) (by8 w)) (cod Z).length).code = 167 := by
  have e := way_end Z (by8 (w / 256)) (by8 w)
  unfold opAt
  rw [e.1, e.2]
  refine ⟨?_, rfl⟩
  show ((cod Z).length : Int) + sg16 _ = _
  rw [way_back w h1 h2]
theorem led_way (Z : List Int) (t : Int) (h1 : -32768 ≤ t - (cod Z).length) (h2 : t - (cod Z).length < 32768) :
    Led (ops (way Z (by8 ((t - (cod Z).length) / 256)) (by8 (t - (cod Z).length))) Z (Z.length + 1)) ((way Z (by8 ((t - (cod Z).length) / 256)) (by8 (t - (cod Z).length))).length : Int) ↔ ∃ j, j ≤ Z.length ∧ t = pl Z j := by
  generalize hF : way Z (by8 ((t - (cod Z).length) / 256)) (by8 (t - (cod Z).length)) = F
  have hl := last_a Z _ h1 h2
  rw [hF] at hl
  have ha : (opAt F (cod Z).length).a = t := by rw [hl.1]; omega
  have hw := way_len Z (by8 ((t - (cod Z).length) / 256)) (by8 (t - (cod Z).length))
  rw [hF] at hw
  have hmem : ∀ y, y ∈ ops F Z (Z.length + 1) ↔ ∃ j, j ≤ Z.length ∧ y = opAt F (pl Z j) := by
    intro y
    unfold ops
    simp only [List.mem_map, List.mem_range]
    constructor
    · rintro ⟨j, hj, rfl⟩; exact ⟨j, by omega, rfl⟩
    · rintro ⟨j, hj, rfl⟩; exact ⟨j, by omega, rfl⟩
  constructor
  · intro h
    obtain ⟨_, _, y, hy, e⟩ := h (opAt F (cod Z).length) ((hmem _).2 ⟨Z.length, Nat.le_refl _, by rw [pl_end]⟩) (by unfold Lead; rw [hl.2]; decide)
    obtain ⟨j, hj, rfl⟩ := (hmem _).1 hy
    rw [ha] at e
    exact ⟨j, hj, e.symm⟩
  · rintro ⟨j, hj, rfl⟩ x hx hlead
    obtain ⟨i, hi, rfl⟩ := (hmem _).1 hx
    by_cases hiz : i = Z.length
    · subst hiz
      rw [pl_end, ha]
      have := pl_le hj
      refine ⟨by omega, by omega, opAt F (pl Z j), (hmem _).2 ⟨j, hj, rfl⟩, rfl⟩
    · have := (way_size (Z := Z) (a := by8 (((pl Z j : Int) - (cod Z).length) / 256)) (b := by8 ((pl Z j : Int) - (cod Z).length)) (List.getElem?_eq_getElem (by omega : i < Z.length))).2
      rw [hF] at this
      exact absurd hlead this
theorem decR_way (Z : List Int) (t : Int) (hZ : Z.length ≤ 300) (h1 : -32768 ≤ t - (cod Z).length) (h2 : t - (cod Z).length < 32768) :
    ((∃ j, j ≤ Z.length ∧ t = pl Z j) → decR (way Z (by8 ((t - (cod Z).length) / 256)) (by8 (t - (cod Z).length))) = (0, ops (way Z (by8 ((t - (cod Z).length) / 256)) (by8 (t - (cod Z).length))) Z (Z.length + 1))) ∧
    ((¬ ∃ j, j ≤ Z.length ∧ t = pl Z j) → decR (way Z (by8 ((t - (cod Z).length) / 256)) (by8 (t - (cod Z).length))) = (41, [])) := by
  have hw := way_len Z (by8 ((t - (cod Z).length) / 256)) (by8 (t - (cod Z).length))
  have hc := pl_3 Z Z.length (Nat.le_refl _)
  rw [pl_end] at hc
  have hl := led_way Z t h1 h2
  refine ⟨fun h => decR_led _ _ (by omega) (by omega) (run_way _ _ _) (hl.2 h), fun h => decR_astray _ _ (by omega) (by omega) (run_way _ _ _) (fun e => h (hl.1 e))⟩
end Go.Proofs.Ytifheohdgjamnaa
