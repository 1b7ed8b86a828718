/- Texts of this claim, joined: PoolLay, FileFacts, FileRef0. -/
import Derived.Test.YtdlmadckpcnkoaaGreatM1
import Derived.IntWalk
/- Plain words on pools that are laid: texts, ints and longs, piece by piece. No program in this text. -/
namespace Go.Proofs.YtdlmadckpcnkoaaGreat
open Go Go.RowKit
set_option linter.unusedVariables false

def hiB (n : Nat) : UInt8 := UInt8.ofNat (n / 256)
def loB (n : Nat) : UInt8 := UInt8.ofNat n
theorem hi_lo (n : Nat) (h : n < 65536) : beB [hiB n, loB n] = n := by
  unfold beB hiB loB
  simp only [List.foldl_cons, List.foldl_nil, UInt8.toNat_ofNat']
  omega
theorem take_here (l r : Bs) (n : Int) (h : n = l.length) (b : Bool) : takeL (l ++ r, b) n = l ∧ takeS (l ++ r, b) n = (r, b) := by
  subst h
  have hn : ¬ (((l.length : Int) < 0) ∨ (((l ++ r).length : Int) < l.length)) := by simp; omega
  rw [takeL_yes hn, takeS_yes hn]
  simp
theorem num_here (l r : Bs) (n : Int) (h : n = l.length) (h1 : 1 ≤ n) (h8 : n ≤ 8) (b : Bool) : numN (l ++ r, b) n = beB l ∧ numS (l ++ r, b) n = (r, b) := by
  have hn : ¬ (n < 1 ∨ 8 < n) := by omega
  rw [numN_yes hn, numS_yes hn]
  have := take_here l r n h b
  rw [this.1, this.2]
  exact ⟨rfl, rfl⟩
/-- A piece: bytes that are read as this constant, whatever stands behind. -/
def Piece (p : Bs) (x : Ent) : Prop := ∀ r : Bs, entX (p ++ r, false) = 0 ∧ entS (p ++ r, false) = (r, false) ∧ entE (p ++ r, false) = x
theorem piece_of (k : UInt8) (q : Bs) (x : Ent) (hk : knownK k.toNat = true) (h : ∀ r : Bs, bodyS k.toNat (q ++ r, false) = (r, false) ∧ bodyE k.toNat (q ++ r, false) = x) : Piece (k :: q) x := by
  intro r
  have hn := num_here [k] (q ++ r) 1 rfl (by omega) (by omega) false
  have e : [k] ++ (q ++ r) = k :: q ++ r := rfl
  rw [e] at hn
  have hb : beB [k] = k.toNat := by unfold beB; simp
  rw [hb] at hn
  unfold entX entS entE
  rw [hn.1, hn.2, (h r).1, (h r).2, hk]
  exact ⟨rfl, rfl, rfl⟩
theorem piece_text (t : Bs) (h : t.length < 65536) : Piece (1 :: hiB t.length :: loB t.length :: t) ⟨1, 0, t, 0, 0, 0⟩ := by
  refine piece_of 1 (hiB t.length :: loB t.length :: t) _ rfl fun r => ?_
  have h2 := num_here [hiB t.length, loB t.length] (t ++ r) 2 rfl (by omega) (by omega) false
  have e : [hiB t.length, loB t.length] ++ (t ++ r) = hiB t.length :: loB t.length :: t ++ r := rfl
  rw [e, hi_lo _ h] at h2
  have h3 := take_here t r t.length rfl false
  constructor
  · show takeS (numS _ 2) (numN _ 2) = _
    rw [h2.1, h2.2, h3.2]
  · show (⟨1, 0, takeL (numS _ 2) (numN _ 2), 0, 0, 0⟩ : Ent) = _
    rw [h2.1, h2.2, h3.1]
/-- Byte i of a number, the lowest first. -/
def byI (x : Int) (i : Nat) : UInt8 := UInt8.ofNat ((x / 2 ^ (8 * i)) % 256).toNat
theorem byI_nat (x : Int) (i : Nat) : ((byI x i).toNat : Int) = (x / 2 ^ (8 * i)) % 256 := by
  unfold byI
  have h1 := Int.emod_nonneg (x / 2 ^ (8 * i)) (by omega : (256 : Int) ≠ 0)
  have h2 := Int.emod_lt_of_pos (x / 2 ^ (8 * i)) (by omega : (0 : Int) < 256)
  rw [UInt8.toNat_ofNat', Nat.mod_eq_of_lt (by omega)]
  omega
def b4 (x : Int) : Bs := [byI x 3, byI x 2, byI x 1, byI x 0]
def b8 (x : Int) : Bs := [byI x 7, byI x 6, byI x 5, byI x 4, byI x 3, byI x 2, byI x 1, byI x 0]
theorem be_b4 (x : Int) : (beB (b4 x) : Int) = x % 4294967296 := by
  have h0 := byI_nat x 0
  have h1 := byI_nat x 1
  have h2 := byI_nat x 2
  have h3 := byI_nat x 3
  simp only [Nat.mul_zero, Int.pow_zero, Int.ediv_one, Nat.mul_one, show (2 : Int) ^ 8 = 256 from rfl, show (2 : Int) ^ (8 * 2) = 65536 from rfl, show (2 : Int) ^ (8 * 3) = 16777216 from rfl] at h0 h1 h2 h3
  unfold beB b4
  simp only [List.foldl_cons, List.foldl_nil]
  omega
theorem be_b8 (x : Int) : (beB (b8 x) : Int) = x % 18446744073709551616 := by
  have h0 := byI_nat x 0
  have h1 := byI_nat x 1
  have h2 := byI_nat x 2
  have h3 := byI_nat x 3
  have h4 := byI_nat x 4
  have h5 := byI_nat x 5
  have h6 := byI_nat x 6
  have h7 := byI_nat x 7
  simp only [Nat.mul_zero, Int.pow_zero, Int.ediv_one, Nat.mul_one, show (2 : Int) ^ 8 = 256 from rfl, show (2 : Int) ^ (8 * 2) = 65536 from rfl, show (2 : Int) ^ (8 * 3) = 16777216 from rfl, show (2 : Int) ^ (8 * 4) = 4294967296 from rfl, show (2 : Int) ^ (8 * 5) = 1099511627776 from rfl, show (2 : Int) ^ (8 * 6) = 281474976710656 from rfl, show (2 : Int) ^ (8 * 7) = 72057594037927936 from rfl] at h0 h1 h2 h3 h4 h5 h6 h7
  unfold beB b8
  simp only [List.foldl_cons, List.foldl_nil]
  omega
theorem piece_int (x : Int) : Piece (3 :: b4 x) ⟨3, wrap64 (wrap32 x), [], 0, 0, 0⟩ := by
  refine piece_of 3 (b4 x) _ rfl fun r => ?_
  have h2 := num_here (b4 x) r 4 rfl (by omega) (by omega) false
  constructor
  · exact h2.2
  · show (⟨3, wrap64 (wrap32 (numN (b4 x ++ r, false) 4)), [], 0, 0, 0⟩ : Ent) = _
    rw [h2.1, be_b4]
    have : wrap32 (x % 4294967296) = wrap32 x := by unfold wrap32; omega
    rw [this]
theorem piece_long (x : Int) (h : -9223372036854775808 ≤ x ∧ x ≤ 9223372036854775807) : Piece (5 :: b8 x) ⟨5, x, [], 0, 0, 0⟩ := by
  refine piece_of 5 (b8 x) _ rfl fun r => ?_
  have h2 := num_here (b8 x) r 8 rfl (by omega) (by omega) false
  constructor
  · exact h2.2
  · show (⟨5, wrap64 (numN (b8 x ++ r, false) 8), [], 0, 0, 0⟩ : Ent) = _
    rw [h2.1, be_b8]
    have : wrap64 (x % 18446744073709551616) = x := by unfold wrap64; omega
    rw [this]
/-- Pieces one behind the other are read one by one. -/
theorem rd_pieces : ∀ (ps : List (Bs × Ent)) (r : Bs) (acc : List Ent), (∀ p, p ∈ ps → Piece p.1 p.2) → rdEnts ps.length ((ps.map (·.1)).flatten ++ r, false) acc = (0, acc ++ ps.map (·.2), (r, false))
  | [], r, acc, _ => by simp [rdEnts]
  | p :: ps, r, acc, h => by
    have hp := h p (by simp) ((ps.map (·.1)).flatten ++ r)
    have e : ((p :: ps).map (·.1)).flatten ++ r = p.1 ++ ((ps.map (·.1)).flatten ++ r) := by simp
    rw [List.length_cons, e, rdEnts_on _ _ _ hp.1, hp.2.1, hp.2.2, rd_pieces ps r _ (fun q hq => h q (by simp [hq]))]
    simp
def told (x : Ent) : Con := ⟨x.kind, x.num, x.text, [], []⟩
theorem res_plain (l : List Ent) : ∀ (rest : List Ent) (acc : List Con), (∀ x, x ∈ rest → x.kind < 7) → resAll l rest acc = (0, acc ++ rest.map told)
  | [], acc, _ => by simp [resAll]
  | x :: rest, acc, h => by
    have hx := h x (by simp)
    have h1 : resOne l x = (0, told x) := by unfold resOne told; rw [if_neg (by omega), if_neg (by omega)]
    rw [resAll_on l x rest acc (by rw [h1]), h1, res_plain l rest _ (fun y hy => h y (by simp [hy]))]
    simp
/-- A pool of pieces that name nothing: all are told as they were laid. -/
theorem pool_laid (ps : List (Bs × Ent)) (r : Bs) (hn : ps.length + 1 ≤ 1000) (h : ∀ p, p ∈ ps → Piece p.1 p.2) (hk : ∀ p, p ∈ ps → p.2.kind < 7) :
    poolX (hiB (ps.length + 1) :: loB (ps.length + 1) :: ((ps.map (·.1)).flatten ++ r), false) = 0 ∧ poolL (hiB (ps.length + 1) :: loB (ps.length + 1) :: ((ps.map (·.1)).flatten ++ r), false) = Con.zero :: ps.map fun p => told p.2 := by
  have h2 := num_here [hiB (ps.length + 1), loB (ps.length + 1)] ((ps.map (·.1)).flatten ++ r) 2 rfl (by omega) (by omega) false
  have e : [hiB (ps.length + 1), loB (ps.length + 1)] ++ ((ps.map (·.1)).flatten ++ r) = hiB (ps.length + 1) :: loB (ps.length + 1) :: ((ps.map (·.1)).flatten ++ r) := rfl
  rw [e, hi_lo _ (by omega)] at h2
  have hh : rdHead (hiB (ps.length + 1) :: loB (ps.length + 1) :: ((ps.map (·.1)).flatten ++ r), false) = (0, [Ent.zero] ++ ps.map (·.2), (r, false)) := by
    unfold rdHead
    rw [h2.1, h2.2]
    simp only [Bool.false_eq_true, if_false]
    rw [if_neg (by omega), Nat.add_sub_cancel, rd_pieces ps r _ h]
  have hr := res_plain ([Ent.zero] ++ ps.map (·.2)) ([Ent.zero] ++ ps.map (·.2)) [] (by
    intro x hx
    rcases List.mem_append.1 hx with hx | hx
    · simp at hx
      subst hx
      exact (by decide : (0 : Nat) < 7)
    · obtain ⟨p, hp, rfl⟩ := List.mem_map.1 hx
      exact hk p hp)
  unfold poolX poolL
  rw [hh]
  simp only [ne_eq, not_true, if_false, hr]
  refine ⟨trivial, ?_⟩
  simp [told, Con.zero, Ent.zero]
end Go.Proofs.YtdlmadckpcnkoaaGreat
/- What holds of pools and their constants, and of flags, for package file. No program in this text. -/
namespace Go.Proofs.YtdlmadckpcnkoaaGreat
open Go Go.RowKit
set_option linter.unusedVariables false

structure GoodC (c : Con) : Prop where
  named : c.kind = 7 → namedB c.text = true
  text : c.text.length < 65536
theorem entAt_mem {l : List Ent} {i k : Nat} {x : Ent} (h : entAt l i k = some x) : x ∈ l := by
  unfold entAt at h
  cases hl : l[i]? with
  | none => rw [hl] at h; cases h
  | some y =>
    rw [hl] at h
    simp only at h
    split at h
    · cases h
      exact List.mem_of_getElem? hl
    · cases h
theorem textAt_short {l : List Ent} {i : Nat} {t : Bs} (hs : ∀ x, x ∈ l → x.text.length < 65536) (h : textAt l i = some t) : t.length < 65536 := by
  unfold textAt at h
  obtain ⟨x, h1, rfl⟩ := Option.map_eq_some_iff.1 h
  exact hs x (entAt_mem h1)
theorem classAt_short {l : List Ent} {i : Nat} {t : Bs} (hs : ∀ x, x ∈ l → x.text.length < 65536) (h : classAt l i = some t) : t.length < 65536 := by
  unfold classAt at h
  obtain ⟨x, h1, h2⟩ := Option.bind_eq_some_iff.1 h
  exact textAt_short hs h2
theorem resOne_good {l : List Ent} {x : Ent} (hs : ∀ x, x ∈ l → x.text.length < 65536) (hx : x.text.length < 65536) (h : (resOne l x).1 = 0) : GoodC (resOne l x).2 := by
  unfold resOne at h ⊢
  split at h
  · rename_i hk
    rw [if_pos hk]
    unfold resText at h ⊢
    cases ht : textAt l x.a with
    | none => rw [ht] at h; simp at h
    | some t =>
      rw [ht] at h
      simp only at h ⊢
      split at h
      · simp at h
      · rename_i hn
        rw [if_neg hn]
        refine ⟨fun h7 => ?_, textAt_short hs ht⟩
        have h7' : x.kind = 7 := h7
        cases hb : namedB t
        · exact absurd ⟨h7', hb⟩ hn
        · rfl
  · rename_i hk
    rw [if_neg hk]
    split at h
    · rename_i hk2
      rw [if_pos hk2]
      unfold resMem at h ⊢
      cases h1 : classAt l x.a with
      | none => rw [h1] at h; simp at h
      | some c =>
        cases h2 : textAt l x.b with
        | none => rw [h1, h2] at h; simp at h
        | some n =>
          cases h3 : textAt l x.d with
          | none => rw [h1, h2, h3] at h; simp at h
          | some t =>
            rw [h1, h2, h3] at h
            simp only at h ⊢
            split at h
            · simp at h
            · rename_i hn
              rw [if_neg hn]
              split at h
              · simp at h
              · rename_i hn2
                rw [if_neg hn2]
                exact ⟨fun h7 => absurd (show x.kind = 7 from h7) (by omega), classAt_short hs h1⟩
    · rename_i hk2
      rw [if_neg hk2]
      exact ⟨fun h7 => absurd (show x.kind = 7 from h7) (by omega), hx⟩
theorem resAll_all (P : Con → Prop) (l : List Ent) : ∀ (rest : List Ent) (acc : List Con), (∀ x, x ∈ rest → (resOne l x).1 = 0 → P (resOne l x).2) → (∀ c, c ∈ acc → P c) → (resAll l rest acc).1 = 0 → ∀ c, c ∈ (resAll l rest acc).2 → P c
  | [], acc, _, h2, _ => by rw [resAll_nil]; exact h2
  | x :: rest, acc, h1, h2, h => by
    by_cases hx : (resOne l x).1 = 0
    · rw [resAll_on l x rest acc hx] at h ⊢
      refine resAll_all P l rest _ (fun y hy => h1 y (List.mem_cons_of_mem _ hy)) (fun c hc => ?_) h
      rcases List.mem_append.1 hc with hc | hc
      · exact h2 c hc
      · simp at hc
        subst hc
        exact h1 x List.mem_cons_self hx
    · rw [resAll_no l x rest acc hx] at h
      exact absurd h hx
theorem rdEnts_whole : ∀ (k : Nat) (s : St) (acc : List Ent), s.2 = false → (rdEnts k s acc).1 = 0 → (rdEnts k s acc).2.2.2 = false
  | 0, s, acc, hs, _ => hs
  | k + 1, s, acc, hs, h => by
    by_cases hx : entX s = 0
    · rw [rdEnts_on k s acc hx] at h ⊢
      exact rdEnts_whole k _ _ (entX_ok s hx).2 h
    · rw [rdEnts_no k s acc hx] at h
      exact absurd h hx
theorem poolX_head {s : St} (h : poolX s = 0) : (rdHead s).1 = 0 := by
  unfold poolX at h
  by_cases hx : (rdHead s).1 = 0
  · exact hx
  · rw [if_pos hx] at h
    exact absurd h hx
theorem poolS_whole {s : St} (h : poolX s = 0) : (poolS s).2 = false := by
  have hh := poolX_head h
  unfold poolS
  unfold rdHead at hh ⊢
  cases hb : (numS s 2).2
  · rw [hb] at hh
    simp only [Bool.false_eq_true, if_false] at hh ⊢
    by_cases hn : numN s 2 = 0 ∨ 1000 < numN s 2
    · rw [if_pos hn] at hh; simp at hh
    · rw [if_neg hn] at hh ⊢
      exact rdEnts_whole _ _ _ hb hh
  · rw [hb] at hh; simp at hh
theorem poolL_good {s : St} (h : poolX s = 0) : ∀ c, c ∈ poolL s → GoodC c := by
  have hh := poolX_head h
  unfold poolX at h
  unfold poolL
  rw [if_neg (by omega)] at h ⊢
  obtain ⟨t, h1, _, _, h3⟩ := rdHead_ok s hh
  have hs : ∀ x, x ∈ (rdHead s).2.1 → x.text.length < 65536 := by
    intro x hx
    rw [h1] at hx
    rcases List.mem_cons.1 hx with rfl | hx
    · exact Nat.zero_lt_succ _
    · exact (h3 x hx).2
  exact resAll_all GoodC _ _ _ (fun x hx h0 => resOne_good hs (hs x hx) h0) (by simp) h
theorem poolL_small {s : St} (h : poolX s = 0) : (poolL s).length ≤ 1000 := by
  have hh := poolX_head h
  unfold poolX at h
  unfold poolL
  rw [if_neg (by omega)] at h ⊢
  obtain ⟨t, h1, h2, _⟩ := rdHead_ok s hh
  have hlen : ∀ (l rest : List Ent) (acc : List Con), (resAll l rest acc).1 = 0 → (resAll l rest acc).2.length = acc.length + rest.length := by
    intro l rest
    induction rest with
    | nil => intro acc _; rw [resAll_nil]; simp
    | cons x rest ih =>
      intro acc h
      by_cases hx : (resOne l x).1 = 0
      · rw [resAll_on l x rest acc hx] at h ⊢
        rw [ih _ h]
        simp
        omega
      · rw [resAll_no l x rest acc hx] at h
        exact absurd h hx
  rw [hlen _ _ _ h, h1]
  simpa using h2
theorem kAt_some {L : List Con} {i k : Nat} {c : Con} (h : kAt L i k = some c) : L[i]? = some c ∧ c.kind = k := by
  unfold kAt at h
  cases hl : L[i]? with
  | none => rw [hl] at h; cases h
  | some y =>
    rw [hl] at h
    simp only at h
    split at h
    · cases h
      exact ⟨rfl, by assumption⟩
    · cases h
theorem kAt_none {L : List Con} {i k : Nat} (h : kAt L i k = none) : L.length ≤ i ∨ ∃ c, L[i]? = some c ∧ c.kind ≠ k := by
  unfold kAt at h
  cases hl : L[i]? with
  | none => exact .inl (List.getElem?_eq_none_iff.1 hl)
  | some y =>
    rw [hl] at h
    simp only at h
    split at h
    · cases h
    · exact .inr ⟨y, rfl, by assumption⟩
theorem named_ne {t : Bs} (h : namedB t = true) : t ≠ [] := by
  rintro rfl
  revert h
  decide
theorem named_arr {t : Bs} (h : namedB t = true) (h1 : t.head? = some 91) : t.drop 1 ≠ [] := by
  intro h2
  cases t with
  | nil => simp at h1
  | cons a r =>
    simp at h1 h2
    subst h1 h2
    revert h
    decide
theorem numP_lt {n : Nat} {s r : Bs} {k : Nat} (h : numP n s = .ok k r) : k < 256 ^ n ∧ n ≤ s.length ∧ r = s.drop n := by
  unfold numP at h
  split at h
  · cases h
  · cases h
    refine ⟨Nat.lt_of_lt_of_le (beB_lt _ _ rfl) (Nat.le_of_eq ?_), by omega, rfl⟩
    rw [List.length_take, Nat.min_eq_left (by omega)]
theorem numP_er {n : Nat} {s : Bs} {x : Nat} (h : numP n s = .er x) : x = 11 ∧ s.length < n := by
  unfold numP at h
  split at h
  · cases h
    exact ⟨rfl, by assumption⟩
  · cases h
/-- A number is that of the reader's own words. -/
theorem numP_st {n : Nat} {s r : Bs} {k : Nat} (h1 : 1 ≤ n) (h8 : n ≤ 8) (h : numP n s = .ok k r) : numN (s, false) n = k ∧ numS (s, false) n = (r, false) := by
  obtain ⟨_, h2, h3⟩ := numP_lt h
  unfold numP at h
  rw [if_neg (by omega)] at h
  injection h with h4 h5
  rw [numN_yes (by omega), numS_yes (by omega), takeL_yes (by simp; omega), takeS_yes (by simp; omega)]
  exact ⟨by simpa using h4, by simpa using h5⟩
theorem numP_st_er {n : Nat} {s : Bs} {x : Nat} (h1 : 1 ≤ n) (h8 : n ≤ 8) (h : numP n s = .er x) : numN (s, false) n = 0 ∧ numS (s, false) n = ([], true) := by
  obtain ⟨_, h2⟩ := numP_er h
  rw [numN_yes (by omega), numS_yes (by omega), takeL_no (by simp; omega), takeS_no (by simp; omega)]
  exact ⟨rfl, rfl⟩
theorem bits16 (f b : Nat) (hf : f < 65536) (hb : b < 65536) : bits .andNot .i64 (f : Int) (b : Int) = 0 ↔ f &&& b = f := by
  show IntKind.i64.wrap ((BitVec.ofInt 64 f &&& ~~~ BitVec.ofInt 64 b).toNat : Nat) = 0 ↔ _
  rw [BitVec.ofInt_natCast, BitVec.ofInt_natCast]
  have hle : (BitVec.ofNat 64 f &&& ~~~ BitVec.ofNat 64 b).toNat ≤ f := by
    rw [BitVec.toNat_and, BitVec.toNat_ofNat, Nat.mod_eq_of_lt (by omega)]
    exact Nat.and_le_left
  rw [IntWalk.i64_in _ (by omega)]
  have h0 : (((BitVec.ofNat 64 f &&& ~~~ BitVec.ofNat 64 b).toNat : Nat) : Int) = 0 ↔ BitVec.ofNat 64 f &&& ~~~ BitVec.ofNat 64 b = 0#64 := by
    constructor
    · intro h
      apply BitVec.eq_of_toNat_eq
      simpa using h
    · intro h
      rw [h]
      rfl
  rw [h0]
  constructor
  · intro h
    apply Nat.eq_of_testBit_eq
    intro i
    rw [Nat.testBit_and]
    have hi := congrArg (fun x => x.getLsbD i) h
    simp only [BitVec.getLsbD_and, BitVec.getLsbD_not, BitVec.getLsbD_ofNat] at hi
    by_cases hi64 : i < 64
    · simp [hi64] at hi
      cases hft : f.testBit i
      · rfl
      · simpa [hft] using hi hft
    · have : f.testBit i = false := Nat.testBit_lt_two_pow (Nat.lt_of_lt_of_le (by omega : f < 2 ^ 64) (Nat.pow_le_pow_right (by omega) (by omega)))
      rw [this]
      rfl
  · intro h
    apply BitVec.eq_of_getLsbD_eq
    intro i hi
    simp only [BitVec.getLsbD_and, BitVec.getLsbD_not, BitVec.getLsbD_ofNat]
    have := congrArg (fun x => x.testBit i) h
    simp only [Nat.testBit_and] at this
    cases hft : f.testBit i
    · simp
    · rw [hft] at this
      simp at this
      simp [this]
theorem and16 (f b : Nat) (hf : f < 65536) (hb : b < 65536) : bits .and .i64 (f : Int) (b : Int) = ((f &&& b : Nat) : Int) := by
  show IntKind.i64.wrap ((BitVec.ofInt 64 f &&& BitVec.ofInt 64 b).toNat : Nat) = _
  have hle : f &&& b ≤ f := Nat.and_le_left
  rw [BitVec.ofInt_natCast, BitVec.ofInt_natCast, BitVec.toNat_and, BitVec.toNat_ofNat, BitVec.toNat_ofNat, Nat.mod_eq_of_lt (by omega), Nat.mod_eq_of_lt (by omega), IntWalk.i64_in _ (by omega)]
end Go.Proofs.YtdlmadckpcnkoaaGreat
/- The document's reader of class files, as functions of what is wrong and of the bytes left; no program in this text. -/
namespace Go.Proofs.YtdlmadckpcnkoaaGreat
open Go Go.RowKit
set_option linter.unusedVariables false

/-- What is wrong (0: nothing), and the reader. -/
abbrev Sg := Nat × St
def wrS (x : Nat) (σ : Sg) : Sg := if σ.1 = 0 then (x, σ.2) else σ
def rNum (n : Nat) (σ : Sg) : Nat × Sg := if σ.1 ≠ 0 then (0, σ) else if (numS σ.2 n).2 then (0, (11, numS σ.2 n)) else (numN σ.2 n, (0, numS σ.2 n))
def rCnt (n most : Nat) (σ : Sg) : Nat × Sg := if most < (rNum n σ).1 then (0, wrS 2 (rNum n σ).2) else rNum n σ
/-- Constant i of a kind, i from 1 on. -/
def kAt1 (L : List Con) (i k : Nat) : Option Con := if i = 0 then none else kAt L i k
def rTxt (L : List Con) (k : Nat) (σ : Sg) : Bs × Sg :=
  if (rNum 2 σ).2.1 ≠ 0 then ([], (rNum 2 σ).2) else match kAt1 L (rNum 2 σ).1 k with
  | some c => (c.text, (rNum 2 σ).2)
  | none => ([], (12, (rNum 2 σ).2.2))
def rCls (L : List Con) (σ : Sg) : Bs × Sg := if (rTxt L 7 σ).1.head? = some 91 then ((rTxt L 7 σ).1, wrS 20 (rTxt L 7 σ).2) else rTxt L 7 σ
def rFlg (b : Nat) (σ : Sg) : Nat × Sg := if (rNum 2 σ).1 &&& b = (rNum 2 σ).1 then rNum 2 σ else ((rNum 2 σ).1, wrS 22 (rNum 2 σ).2)
def memW (m : Bool) (a d : Bs) (σ : Sg) : Sg :=
  (fun τ : Sg => if (m = true ∧ (metB d).isSome = false) ∨ (m = false ∧ typeB d = false) then wrS 21 τ else τ) (if nameB a m = false then wrS 20 σ else σ)
def rMem (L : List Con) (m : Bool) (σ : Sg) : (Bs × Bs) × Sg :=
  if (rTxt L 1 (rTxt L 1 σ).2).2.1 ≠ 0 then (([], []), (rTxt L 1 (rTxt L 1 σ).2).2)
  else (((rTxt L 1 σ).1, (rTxt L 1 (rTxt L 1 σ).2).1), memW m (rTxt L 1 σ).1 (rTxt L 1 (rTxt L 1 σ).2).1 (rTxt L 1 (rTxt L 1 σ).2).2)
theorem rNum_lt (n : Nat) (σ : Sg) (hn : n ≤ 2) : (rNum n σ).1 < 65536 := by
  unfold rNum
  split
  · omega
  split
  · omega
  · have := numN_lt σ.2 n 2 hn
    show numN σ.2 n < 65536
    omega
theorem wrS_bad (x : Nat) {σ : Sg} (h : σ.1 ≠ 0) : wrS x σ = σ := by unfold wrS; rw [if_neg h]
theorem wrS_new (x : Nat) {σ : Sg} (h : σ.1 = 0) : wrS x σ = (x, σ.2) := by unfold wrS; rw [if_pos h]
theorem rNum_bad (n : Nat) {σ : Sg} (h : σ.1 ≠ 0) : rNum n σ = (0, σ) := by unfold rNum; rw [if_pos h]
theorem rTxt_len {L : List Con} {k : Nat} {σ : Sg} (hg : ∀ c, c ∈ L → GoodC c) : (rTxt L k σ).1.length < 65536 := by
  unfold rTxt
  split
  · exact Nat.zero_lt_succ _
  · cases hk : kAt1 L (rNum 2 σ).1 k with
    | none => exact Nat.zero_lt_succ _
    | some c =>
      unfold kAt1 at hk
      split at hk
      · cases hk
      · exact (hg c (List.mem_of_getElem? (kAt_some hk).1)).text
end Go.Proofs.YtdlmadckpcnkoaaGreat
