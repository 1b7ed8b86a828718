/- Plain words on pools that are laid: texts, ints and longs, piece by piece. No program in this text. -/
import Derived.Test.YtogbieehpppnaaaPoolFacts
import Derived.IntWalk
namespace Go.Proofs.Ytogbieehpppnaaa
open Go Go.RowKit
set_option linter.unusedVariables false

def hiB (n : Nat) : UInt8 := UInt8.ofNat (n / 256)
def loB (n : Nat) : UInt8 := UInt8.ofNat n
theorem hi_lo (n : Nat) (h : n < 65536) : beB [hiB n, loB n] = n := by
  unfold beB hiB loB
  simp only [List.foldl_cons, List.foldl_nil, UInt8.toNat_ofNat']
  omega
theorem take_here (l r : Bs) (n : Int) (h : n = l.length) (b : Bool) : takeL (l ++ r, b) n = l ∧ takeS (l ++ r, b) n = (r, b) := by
  subst h
  have hn : ¬ (((l.length : Int) < 0) ∨ (((l ++ r).length : Int) < l.length)) := by simp; omega
  rw [takeL_yes hn, takeS_yes hn]
  simp
theorem num_here (l r : Bs) (n : Int) (h : n = l.length) (h1 : 1 ≤ n) (h8 : n ≤ 8) (b : Bool) : numN (l ++ r, b) n = beB l ∧ numS (l ++ r, b) n = (r, b) := by
  have hn : ¬ (n < 1 ∨ 8 < n) := by omega
  rw [numN_yes hn, numS_yes hn]
  have := take_here l r n h b
  rw [this.1, this.2]
  exact ⟨rfl, rfl⟩
/-- A piece: bytes that are read as this constant, whatever stands behind. -/
def Piece (p : Bs) (x : Ent) : Prop := ∀ r : Bs, entX (p ++ r, false) = 0 ∧ entS (p ++ r, false) = (r, false) ∧ entE (p ++ r, false) = x
theorem piece_of (k : UInt8) (q : Bs) (x : Ent) (hk : knownK k.toNat = true) (h : ∀ r : Bs, bodyS k.toNat (q ++ r, false) = (r, false) ∧ bodyE k.toNat (q ++ r, false) = x) : Piece (k :: q) x := by
  intro r
  have hn := num_here [k] (q ++ r) 1 rfl (by omega) (by omega) false
  have e : [k] ++ (q ++ r) = k :: q ++ r := rfl
  rw [e] at hn
  have hb : beB [k] = k.toNat := by unfold beB; simp
  rw [hb] at hn
  unfold entX entS entE
  rw [hn.1, hn.2, (h r).1, (h r).2, hk]
  exact ⟨rfl, rfl, rfl⟩
theorem piece_text (t : Bs) (h : t.length < 65536) : Piece (1 :: hiB t.length :: loB t.length :: t) ⟨1, 0, t, 0, 0, 0⟩ := by
  refine piece_of 1 (hiB t.length :: loB t.length :: t) _ rfl fun r => ?_
  have h2 := num_here [hiB t.length, loB t.length] (t ++ r) 2 rfl (by omega) (by omega) false
  have e : [hiB t.length, loB t.length] ++ (t ++ r) = hiB t.length :: loB t.length :: t ++ r := rfl
  rw [e, hi_lo _ h] at h2
  have h3 := take_here t r t.length rfl false
  constructor
  · show takeS (numS _ 2) (numN _ 2) = _
    rw [h2.1, h2.2, h3.2]
  · show (⟨1, 0, takeL (numS _ 2) (numN _ 2), 0, 0, 0⟩ : Ent) = _
    rw [h2.1, h2.2, h3.1]
/-- Byte i of a number, the lowest first. -/
def byI (x : Int) (i : Nat) : UInt8 := UInt8.ofNat ((x / 2 ^ (8 * i)) % 256).toNat
theorem byI_nat (x : Int) (i : Nat) : ((byI x i).toNat : Int) = (x / 2 ^ (8 * i)) % 256 := by
  unfold byI
  have h1 := Int.emod_nonneg (x / 2 ^ (8 * i)) (by omega : (256 : Int) ≠ 0)
  have h2 := Int.emod_lt_of_pos (x / 2 ^ (8 * i)) (by omega : (0 : Int) < 256)
  rw [UInt8.toNat_ofNat', Nat.mod_eq_of_lt (by omega)]
  omega
def b4 (x : Int) : Bs := [byI x 3, byI x 2, byI x 1, byI x 0]
def b8 (x : Int) : Bs := [byI x 7, byI x 6, byI x 5, byI x 4, byI x 3, byI x 2, byI x 1, byI x 0]
theorem be_b4 (x : Int) : (beB (b4 x) : Int) = x % 4294967296 := by
  have h0 := byI_nat x 0
  have h1 := byI_nat x 1
  have h2 := byI_nat x 2
  have h3 := byI_nat x 3
  simp only [Nat.mul_zero, Int.pow_zero, Int.ediv_one, Nat.mul_one, show (2 : Int) ^ 8 = 256 from rfl, show (2 : Int) ^ (8 * 2) = 65536 from rfl, show (2 : Int) ^ (8 * 3) = 16777216 from rfl] at h0 h1 h2 h3
  unfold beB b4
  simp only [List.foldl_cons, List.foldl_nil]
  omega
theorem be_b8 (x : Int) : (beB (b8 x) : Int) = x % 18446744073709551616 := by
  have h0 := byI_nat x 0
  have h1 := byI_nat x 1
  have h2 := byI_nat x 2
  have h3 := byI_nat x 3
  have h4 := byI_nat x 4
  have h5 := byI_nat x 5
  have h6 := byI_nat x 6
  have h7 := byI_nat x 7
  simp only [Nat.mul_zero, Int.pow_zero, Int.ediv_one, Nat.mul_one, show (2 : Int) ^ 8 = 256 from rfl, show (2 : Int) ^ (8 * 2) = 65536 from rfl, show (2 : Int) ^ (8 * 3) = 16777216 from rfl, show (2 : Int) ^ (8 * 4) = 4294967296 from rfl, show (2 : Int) ^ (8 * 5) = 1099511627776 from rfl, show (2 : Int) ^ (8 * 6) = 281474976710656 from rfl, show (2 : Int) ^ (8 * 7) = 72057594037927936 from rfl] at h0 h1 h2 h3 h4 h5 h6 h7
  unfold beB b8
  simp only [List.foldl_cons, List.foldl_nil]
  omega
theorem piece_int (x : Int) : Piece (3 :: b4 x) ⟨3, wrap64 (wrap32 x), [], 0, 0, 0⟩ := by
  refine piece_of 3 (b4 x) _ rfl fun r => ?_
  have h2 := num_here (b4 x) r 4 rfl (by omega) (by omega) false
  constructor
  · exact h2.2
  · show (⟨3, wrap64 (wrap32 (numN (b4 x ++ r, false) 4)), [], 0, 0, 0⟩ : Ent) = _
    rw [h2.1, be_b4]
    have : wrap32 (x % 4294967296) = wrap32 x := by unfold wrap32; omega
    rw [this]
theorem piece_long (x : Int) (h : -9223372036854775808 ≤ x ∧ x ≤ 9223372036854775807) : Piece (5 :: b8 x) ⟨5, x, [], 0, 0, 0⟩ := by
  refine piece_of 5 (b8 x) _ rfl fun r => ?_
  have h2 := num_here (b8 x) r 8 rfl (by omega) (by omega) false
  constructor
  · exact h2.2
  · show (⟨5, wrap64 (numN (b8 x ++ r, false) 8), [], 0, 0, 0⟩ : Ent) = _
    rw [h2.1, be_b8]
    have : wrap64 (x % 18446744073709551616) = x := by unfold wrap64; omega
    rw [this]
/-- Pieces one behind the other are read one by one. -/
theorem rd_pieces : ∀ (ps : List (Bs × Ent)) (r : Bs) (acc : List Ent), (∀ p, p ∈ ps → Piece p.1 p.2) → rdEnts ps.length ((ps.map (·.1)).flatten ++ r, false) acc = (0, acc ++ ps.map (·.2), (r, false))
  | [], r, acc, _ => by simp [rdEnts]
  | p :: ps, r, acc, h => by
    have hp := h p (by simp) ((ps.map (·.1)).flatten ++ r)
    have e : ((p :: ps).map (·.1)).flatten ++ r = p.1 ++ ((ps.map (·.1)).flatten ++ r) := by simp
    rw [List.length_cons, e, rdEnts_on _ _ _ hp.1, hp.2.1, hp.2.2, rd_pieces ps r _ (fun q hq => h q (by simp [hq]))]
    simp
def told (x : Ent) : Con := ⟨x.kind, x.num, x.text, [], []⟩
theorem res_plain (l : List Ent) : ∀ (rest : List Ent) (acc : List Con), (∀ x, x ∈ rest → x.kind < 7) → resAll l rest acc = (0, acc ++ rest.map told)
  | [], acc, _ => by simp [resAll]
  | x :: rest, acc, h => by
    have hx := h x (by simp)
    have h1 : resOne l x = (0, told x) := by unfold resOne told; rw [if_neg (by omega), if_neg (by omega)]
    rw [resAll_on l x rest acc (by rw [h1]), h1, res_plain l rest _ (fun y hy => h y (by simp [hy]))]
    simp
/-- A pool of pieces that name nothing: all are told as they were laid. -/
theorem pool_laid (ps : List (Bs × Ent)) (r : Bs) (hn : ps.length + 1 ≤ 1000) (h : ∀ p, p ∈ ps → Piece p.1 p.2) (hk : ∀ p, p ∈ ps → p.2.kind < 7) :
    poolX (hiB (ps.length + 1) :: loB (ps.length + 1) :: ((ps.map (·.1)).flatten ++ r), false) = 0 ∧ poolL (hiB (ps.length + 1) :: loB (ps.length + 1) :: ((ps.map (·.1)).flatten ++ r), false) = Con.zero :: ps.map fun p => told p.2 := by
  have h2 := num_here [hiB (ps.length + 1), loB (ps.length + 1)] ((ps.map (·.1)).flatten ++ r) 2 rfl (by omega) (by omega) false
  have e : [hiB (ps.length + 1), loB (ps.length + 1)] ++ ((ps.map (·.1)).flatten ++ r) = hiB (ps.length + 1) :: loB (ps.length + 1) :: ((ps.map (·.1)).flatten ++ r) := rfl
  rw [e, hi_lo _ (by omega)] at h2
  have hh : rdHead (hiB (ps.length + 1) :: loB (ps.length + 1) :: ((ps.map (·.1)).flatten ++ r), false) = (0, [Ent.zero] ++ ps.map (·.2), (r, false)) := by
    unfold rdHead
    rw [h2.1, h2.2]
    simp only [Bool.false_eq_true, if_false]
    rw [if_neg (by omega), Nat.add_sub_cancel, rd_pieces ps r _ h]
  have hr := res_plain ([Ent.zero] ++ ps.map (·.2)) ([Ent.zero] ++ ps.map (·.2)) [] (by
    intro x hx
    rcases List.mem_append.1 hx with hx | hx
    · simp at hx
      subst hx
      exact (by decide : (0 : Nat) < 7)
    · obtain ⟨p, hp, rfl⟩ := List.mem_map.1 hx
      exact hk p hp)
  unfold poolX poolL
  rw [hh]
  simp only [ne_eq, not_true, if_false, hr]
  refine ⟨trivial, ?_⟩
  simp [told, Con.zero, Ent.zero]
end Go.Proofs.Ytogbieehpppnaaa
