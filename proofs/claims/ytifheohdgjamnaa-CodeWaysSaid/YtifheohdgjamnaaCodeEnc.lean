/- Instructions put together, in plain words. No program in this text. -/
import Derived.Test.YtifheohdgjamnaaCodeDec
namespace Go.Proofs.Ytifheohdgjamnaa
open Go.RowKit Go
set_option linter.unusedVariables false

def by8 (z : Int) : UInt8 := UInt8.ofNat (z % 256).toNat
theorem by8_val (z : Int) : ((by8 z).toNat : Int) = z % 256 := by
  unfold by8
  rw [UInt8.toNat_ofNat']
  have := Nat.mod_eq_of_lt (show (z % 256).toNat < 256 by omega)
  rw [show (2 : Nat) ^ 8 = 256 from rfl, this]
  omega
theorem by8_of (z : Int) (b : UInt8) (h : z % 256 = b.toNat) : by8 z = b := by
  apply UInt8.toNat_inj.1
  have := by8_val z
  omega
theorem bN_def (L : Bs) (k : Nat) : bN L k = (L.getD k 0).toNat := rfl
theorem by8_b (L : Bs) (k : Nat) : by8 (bN L k) = L.getD k 0 := by8_of _ _ (by have := bN_lt L k; rw [← bN_def]; omega)
theorem by8_s8 (L : Bs) (k : Nat) : by8 (sg8 (bN L k)) = L.getD k 0 := by8_of _ _ (by have := bN_lt L k; rw [← bN_def]; unfold sg8; split <;> omega)
theorem by8_lo (L : Bs) (k : Nat) : by8 (two L k) = L.getD (k + 2) 0 := by8_of _ _ (by have := bN_lt L (k + 2); rw [← bN_def]; unfold two; omega)
theorem by8_hi (L : Bs) (k : Nat) : by8 ((two L k : Int) / 256) = L.getD (k + 1) 0 := by8_of _ _ (by have := bN_lt L (k + 2); have := bN_lt L (k + 1); rw [← bN_def]; unfold two; omega)
theorem by8_slo (L : Bs) (k : Nat) : by8 (sg16 (two L k)) = L.getD (k + 2) 0 := by8_of _ _ (by have := bN_lt L (k + 2); rw [← bN_def]; unfold sg16 two; split <;> omega)
theorem by8_shi (L : Bs) (k : Nat) : by8 (sg16 (two L k) / 256) = L.getD (k + 1) 0 := by8_of _ _ (by have := bN_lt L (k + 2); have := bN_lt L (k + 1); rw [← bN_def]; unfold sg16 two; split <;> omega)
theorem take_on1 (L : Bs) (p n : Nat) (h : p < L.length) : (L.drop p).take (n + 1) = L.getD p 0 :: (L.drop (p + 1)).take n := by
  rw [List.drop_eq_getElem_cons h, List.take_succ_cons, List.getD_eq_getElem?_getD, List.getElem?_eq_getElem h]
  rfl
/-- An instruction's bytes: the program's, the document's. -/
def laidR (r : Nat) (x : Cop) : Bs :=
  match r with
  | 1 => [by8 x.code]
  | 2 => [by8 x.code, by8 x.a]
  | 3 => [by8 x.code, by8 x.a]
  | 4 => [by8 x.code, by8 (x.a / 256), by8 x.a]
  | 5 => [by8 x.code, by8 (x.a / 256), by8 x.a]
  | 6 => if (0 ≤ x.pc ∧ x.pc < 4000) ∧ 0 ≤ x.a ∧ x.a < 4000 then [by8 x.code, by8 ((x.a - x.pc) / 256), by8 (x.a - x.pc)] else []
  | 7 => [by8 x.code, by8 x.a, by8 x.b]
  | _ => []
def laidP (x : Cop) : Bs := laidR (rowN x.code) x
def laidS (r : Nat) (x : Cop) : Bs :=
  match r with
  | 2 => [by8 x.a]
  | 3 => [by8 x.a]
  | 4 => [by8 (x.a / 256), by8 x.a]
  | 5 => [by8 (x.a / 256), by8 x.a]
  | 6 => [by8 (wrap64 (x.a - x.pc) / 256), by8 (wrap64 (x.a - x.pc))]
  | 7 => [by8 x.a, by8 x.b]
  | _ => []
def laidD (x : Cop) : Bs := by8 x.code :: laidS (rowN x.code) x
theorem laidP_len (x : Cop) : (laidP x).length ≤ 3 := by
  unfold laidP laidR
  split <;> (try split) <;> simp
theorem laidD_len (x : Cop) : (laidD x).length ≤ 3 := by
  unfold laidD laidS
  split <;> simp
/-- An instruction of code lies well: its bytes are there, where it leads is a place. -/
def Well (L : Bs) (x : Cop) : Prop := ∃ p : Nat, x = opAt L p ∧ szN (bN L p) ≠ 0 ∧ p + szN (bN L p) ≤ L.length ∧ (Lead x → 0 ≤ x.a ∧ x.a < 4000)
theorem laid_at (L : Bs) (p : Nat) (hL : L.length ≤ 4000) (h0 : szN (bN L p) ≠ 0) (h1 : p + szN (bN L p) ≤ L.length) (h2 : Lead (opAt L p) → 0 ≤ (opAt L p).a ∧ (opAt L p).a < 4000) :
    laidP (opAt L p) = (L.drop p).take (szN (bN L p)) ∧ laidD (opAt L p) = (L.drop p).take (szN (bN L p)) := by
  have hle := rowN_le (bN L p)
  obtain ⟨r, hr⟩ : ∃ r, rowN (bN L p) = r := ⟨_, rfl⟩
  have hc : (opAt L p).code = bN L p := rfl
  unfold laidP laidD
  unfold Lead at h2
  rw [hc, hr] at h2 ⊢
  have hx : opAt L p = ⟨p, bN L p, opA r (bN L (p + 1)) (two L p) p, opB r (bN L (p + 2))⟩ := by unfold opAt; rw [hr]
  rw [hx] at h2 ⊢
  unfold szN at h0 h1 ⊢
  rw [hr] at h0 h1 hle ⊢
  rcases row_ways hle with rfl | rfl | rfl | rfl | rfl | rfl | rfl | rfl
  · exact absurd rfl h0
  · have h1 : p + 1 ≤ L.length := h1
    rw [show szR 1 = 0 + 1 from rfl, take_on1 L p 0 (by omega)]
    simp only [laidR, laidS, by8_b, List.take_zero]
    exact ⟨by trivial, by trivial⟩
  · have h1 : p + 2 ≤ L.length := h1
    rw [show szR 2 = 0 + 1 + 1 from rfl, take_on1 L p _ (by omega), take_on1 L _ _ (by omega)]
    simp only [laidR, laidS, opA, by8_b, List.take_zero]
    exact ⟨by trivial, by trivial⟩
  · have h1 : p + 2 ≤ L.length := h1
    rw [show szR 3 = 0 + 1 + 1 from rfl, take_on1 L p _ (by omega), take_on1 L _ _ (by omega)]
    simp only [laidR, laidS, opA, by8_b, by8_s8, List.take_zero]
    exact ⟨by trivial, by trivial⟩
  · have h1 : p + 3 ≤ L.length := h1
    rw [show szR 4 = 0 + 1 + 1 + 1 from rfl, take_on1 L p _ (by omega), take_on1 L _ _ (by omega), take_on1 L _ _ (by omega)]
    simp only [laidR, laidS, opA, by8_b, by8_shi, by8_slo, List.take_zero]
    exact ⟨by trivial, by trivial⟩
  · have h1 : p + 3 ≤ L.length := h1
    rw [show szR 5 = 0 + 1 + 1 + 1 from rfl, take_on1 L p _ (by omega), take_on1 L _ _ (by omega), take_on1 L _ _ (by omega)]
    simp only [laidR, laidS, opA, by8_b, by8_hi, by8_lo, List.take_zero]
    exact ⟨by trivial, by trivial⟩
  · have h1 : p + 3 ≤ L.length := h1
    have h3 := h2 rfl
    rw [show szR 6 = 0 + 1 + 1 + 1 from rfl, take_on1 L p _ (by omega), take_on1 L _ _ (by omega), take_on1 L _ _ (by omega)]
    have e : (p : Int) + sg16 (two L p) - p = sg16 (two L p) := by omega
    have e2 : wrap64 (sg16 (two L p)) = sg16 (two L p) := IntWalk.wrap64_in _ (by have := two_lt L p; unfold sg16; split <;> omega)
    simp only [laidR, laidS, opA, by8_b, e, e2, by8_shi, by8_slo, List.take_zero]
    rw [if_pos ⟨by omega, h3⟩]
    exact ⟨by trivial, by trivial⟩
  · have h1 : p + 3 ≤ L.length := h1
    rw [show szR 7 = 0 + 1 + 1 + 1 from rfl, take_on1 L p _ (by omega), take_on1 L _ _ (by omega), take_on1 L _ _ (by omega)]
    simp only [laidR, laidS, opA, opB, if_true, by8_b, by8_s8, List.take_zero]
    exact ⟨by trivial, by trivial⟩
/-- What run takes are instructions that lie well one behind the other. -/
theorem run_laid (L : Bs) (laid : Cop → Bs) (h : ∀ p, szN (bN L p) ≠ 0 → p + szN (bN L p) ≤ L.length → (Lead (opAt L p) → 0 ≤ (opAt L p).a ∧ (opAt L p).a < 4000) → laid (opAt L p) = (L.drop p).take (szN (bN L p))) :
    ∀ (f k : Nat) (D : List Cop), run L f k = some D → (∀ x ∈ D, Lead x → 0 ≤ x.a ∧ x.a < 4000) → D.flatMap laid = L.drop k
  | 0, k, D, e, _ => by simp [run] at e
  | f + 1, k, D, e, hD => by
    by_cases h0 : L.length ≤ k
    · rw [run_end h0] at e
      cases e
      rw [List.drop_eq_nil_of_le h0]
      rfl
    · by_cases h1 : szN (bN L k) = 0 ∨ L.length < k + szN (bN L k)
      · rw [run_no (by omega) h1] at e
        cases e
      · rw [run_on (by omega) (by omega) (by omega)] at e
        obtain ⟨D', e1, rfl⟩ := Option.map_eq_some_iff.1 e
        rw [List.flatMap_cons, run_laid L laid h f _ D' e1 (fun x hx => hD x (List.mem_cons_of_mem _ hx)), h k (by omega) (by omega) (hD _ (List.mem_cons_self ..)), ← List.drop_drop, List.take_append_drop]
theorem decR_ok {L : Bs} {l : List Cop} (h : decR L = (0, l)) : run L (L.length + 1) 0 = some l ∧ Led l L.length ∧ L.length ≤ 4000 := by
  by_cases h0 : L.length = 0
  · rw [decR_nil L h0] at h
    simp at h
  by_cases h4 : 4000 < L.length
  · rw [decR_long L h4] at h
    simp at h
  cases hr : run L (L.length + 1) 0 with
  | none =>
    rw [decR_none L h0 (by omega) hr] at h
    simp at h
  | some D =>
    by_cases hl : Led D L.length
    · rw [decR_led L D h0 (by omega) hr hl] at h
      simp at h
      subst h
      exact ⟨rfl, hl, by omega⟩
    · rw [decR_astray L D h0 (by omega) hr hl] at h
      simp at h
theorem decR_laid {L : Bs} {l : List Cop} (h : decR L = (0, l)) : l.flatMap laidP = L ∧ l.flatMap laidD = L := by
  obtain ⟨h1, h2, h3⟩ := decR_ok h
  have hb : ∀ x ∈ l, Lead x → 0 ≤ x.a ∧ x.a < 4000 := fun x hx hl => by
    obtain ⟨a, b, _⟩ := h2 x hx hl
    exact ⟨a, by omega⟩
  have e1 := run_laid L laidP (fun p a b c => (laid_at L p h3 a b c).1) _ _ _ h1 hb
  have e2 := run_laid L laidD (fun p a b c => (laid_at L p h3 a b c).2) _ _ _ h1 hb
  rw [List.drop_zero] at e1 e2
  exact ⟨e1, e2⟩
instance (x y : Cop) : Decidable (x = y) := if h : x.pc = y.pc ∧ x.code = y.code ∧ x.a = y.a ∧ x.b = y.b then .isTrue (Cop.same h.1 h.2.1 h.2.2.1 h.2.2.2) else .isFalse (fun e => h (by subst e; exact ⟨rfl, rfl, rfl, rfl⟩))
/-- What instructions come to: what is wrong, the bytes. -/
def encR (l : List Cop) : Int × Bs := if decR (l.flatMap laidP) = (0, l) then (0, l.flatMap laidP) else (1, [])
theorem encR_ok {L : Bs} {l : List Cop} (h : decR L = (0, l)) : encR l = (0, L) := by
  have := (decR_laid h).1
  unfold encR
  rw [this, if_pos h]
theorem encR_no {l : List Cop} (h : ∀ L, decR L ≠ (0, l)) : encR l = (1, []) := by
  unfold encR
  rw [if_neg (h _)]
theorem flat_le (l : List Cop) (laid : Cop → Bs) (k : Nat) : ((l.take k).flatMap laid).length ≤ (l.flatMap laid).length := by
  have e : l.flatMap laid = (l.take k).flatMap laid ++ (l.drop k).flatMap laid := by rw [← List.flatMap_append, List.take_append_drop]
  rw [e, List.length_append]
  omega
theorem flat_on {l : List Cop} {laid : Cop → Bs} {k : Nat} {x : Cop} (h : l[k]? = some x) : (l.take (k + 1)).flatMap laid = (l.take k).flatMap laid ++ laid x := by
  rw [List.take_add_one, h]
  simp
/-- Where the bytes of the first k are too many, all are refused. -/
theorem encR_long {l : List Cop} {k : Nat} {laid : Cop → Bs} (hl : laid = laidP ∨ laid = laidD) (h : 4000 < ((l.take k).flatMap laid).length) : encR l = (1, []) := encR_no fun L e => by
  have h1 := decR_laid e
  have h2 := (decR_ok e).2.2
  have h3 := flat_le l laid k
  rcases hl with rfl | rfl
  · rw [h1.1] at h3; omega
  · rw [h1.2] at h3; omega
theorem encR_other {l : List Cop} {laid : Cop → Bs} (hl : laid = laidP ∨ laid = laidD) (h : decR (l.flatMap laid) ≠ (0, l)) : encR l = (1, []) := encR_no fun L e => by
  have h1 := decR_laid e
  rcases hl with rfl | rfl
  · rw [h1.1] at h; exact h e
  · rw [h1.2] at h; exact h e
end Go.Proofs.Ytifheohdgjamnaa
