/- Plain words on bytes, pools and their constants for package pool. No program in this text. -/
import Derived.Test.YtogbieehpppnaaaDescMath
import Derived.RowKit
namespace Go.Proofs.Ytogbieehpppnaaa
open Go Go.RowKit
set_option linter.unusedVariables false

/-- A reader: the bytes left, and whether some were missing. -/
abbrev St := Bs × Bool
def takeL (s : St) (n : Int) : Bs := if n < 0 ∨ (s.1.length : Int) < n then [] else s.1.take n.toNat
def takeS (s : St) (n : Int) : St := if n < 0 ∨ (s.1.length : Int) < n then ([], true) else (s.1.drop n.toNat, s.2)
def beB (l : Bs) : Nat := l.foldl (fun x c => x * 256 + c.toNat) 0
def numN (s : St) (n : Int) : Nat := if n < 1 ∨ 8 < n then 0 else beB (takeL s n)
def numS (s : St) (n : Int) : St := if n < 1 ∨ 8 < n then s else takeS s n

theorem takeL_no {s : St} {n : Int} (h : n < 0 ∨ (s.1.length : Int) < n) : takeL s n = [] := by unfold takeL; rw [if_pos h]
theorem takeL_yes {s : St} {n : Int} (h : ¬ (n < 0 ∨ (s.1.length : Int) < n)) : takeL s n = s.1.take n.toNat := by unfold takeL; rw [if_neg h]
theorem takeS_no {s : St} {n : Int} (h : n < 0 ∨ (s.1.length : Int) < n) : takeS s n = ([], true) := by unfold takeS; rw [if_pos h]
theorem takeS_yes {s : St} {n : Int} (h : ¬ (n < 0 ∨ (s.1.length : Int) < n)) : takeS s n = (s.1.drop n.toNat, s.2) := by unfold takeS; rw [if_neg h]
theorem numN_no {s : St} {n : Int} (h : n < 1 ∨ 8 < n) : numN s n = 0 := by unfold numN; rw [if_pos h]
theorem numN_yes {s : St} {n : Int} (h : ¬ (n < 1 ∨ 8 < n)) : numN s n = beB (takeL s n) := by unfold numN; rw [if_neg h]
theorem numS_no {s : St} {n : Int} (h : n < 1 ∨ 8 < n) : numS s n = s := by unfold numS; rw [if_pos h]
theorem numS_yes {s : St} {n : Int} (h : ¬ (n < 1 ∨ 8 < n)) : numS s n = takeS s n := by unfold numS; rw [if_neg h]
theorem beB_nil : beB [] = 0 := rfl
theorem beB_snoc (l : Bs) (c : UInt8) : beB (l ++ [c]) = beB l * 256 + c.toNat := by unfold beB; rw [List.foldl_append]; rfl
theorem beB_lt : ∀ (n : Nat) (l : Bs), l.length = n → beB l < 256 ^ n := by
  intro n
  induction n with
  | zero => intro l h; rw [List.length_eq_zero_iff.1 h]; simp [beB_nil]
  | succ n ih =>
    intro l h
    have hne : l ≠ [] := by rintro rfl; simp at h
    rw [← List.dropLast_concat_getLast hne, beB_snoc]
    have h1 := ih l.dropLast (by simp [h])
    have h2 := (l.getLast hne).toNat_lt
    rw [Nat.pow_succ]
    omega
theorem takeL_len (s : St) (n : Int) : (takeL s n).length = 0 ∨ ((takeL s n).length : Int) = n := by
  by_cases h : n < 0 ∨ (s.1.length : Int) < n
  · rw [takeL_no h]; exact .inl rfl
  · rw [takeL_yes h, List.length_take]; omega
theorem pow_mono (a b : Nat) (h : a ≤ b) : 256 ^ a ≤ 256 ^ b := Nat.pow_le_pow_right (by omega) h
theorem numN_lt (s : St) (n k : Nat) (hn : n ≤ k) : numN s n < 256 ^ k := by
  have hp : 0 < 256 ^ k := Nat.pow_pos (by omega)
  by_cases h : (n : Int) < 1 ∨ 8 < (n : Int)
  · rw [numN_no h]; exact hp
  · rw [numN_yes h]
    refine Nat.lt_of_lt_of_le (beB_lt _ _ rfl) (pow_mono _ _ ?_)
    have := takeL_len s n
    omega
theorem num1_lt (s : St) : numN s 1 < 256 := numN_lt s 1 1 (Nat.le_refl _)
theorem num2_lt (s : St) : numN s 2 < 65536 := numN_lt s 2 2 (Nat.le_refl _)
theorem num4_lt (s : St) : numN s 4 < 4294967296 := numN_lt s 4 4 (Nat.le_refl _)
theorem numN_lt64 (s : St) (n : Int) : numN s n < 18446744073709551616 := by
  by_cases h : n < 1 ∨ 8 < n
  · rw [numN_no h]; omega
  · rw [numN_yes h]
    refine Nat.lt_of_lt_of_le (beB_lt _ _ rfl) ?_
    have h1 := takeL_len s n
    exact Nat.le_trans (pow_mono _ 8 (by omega)) (by decide)
theorem takeS_le (s : St) (n : Int) : (takeS s n).1.length ≤ s.1.length := by
  by_cases h : n < 0 ∨ (s.1.length : Int) < n
  · rw [takeS_no h]; simp
  · rw [takeS_yes h]; simp
theorem numS_le (s : St) (n : Int) : (numS s n).1.length ≤ s.1.length := by
  by_cases h : n < 1 ∨ 8 < n
  · rw [numS_no h]; exact Nat.le_refl _
  · rw [numS_yes h]; exact takeS_le s n
theorem takeS_suffix (s : St) (n : Int) : ∃ k, (takeS s n).1 = s.1.drop k := by
  by_cases h : n < 0 ∨ (s.1.length : Int) < n
  · rw [takeS_no h]; exact ⟨s.1.length, by simp⟩
  · rw [takeS_yes h]; exact ⟨_, rfl⟩

/-- A constant as its bytes tell it. -/
structure Ent where
  kind : Nat
  num : Int
  text : Bs
  a : Nat
  b : Nat
  d : Nat
def Ent.zero : Ent := ⟨0, 0, [], 0, 0, 0⟩
/-- A constant as the caller has it. -/
structure Con where
  kind : Nat
  num : Int
  text : Bs
  name : Bs
  desc : Bs
def Con.zero : Con := ⟨0, 0, [], [], []⟩
/-- The bytes behind a kind: the constant, and where the reader stands then. -/
def bodyE (k : Nat) (s : St) : Ent :=
  if k = 1 then ⟨1, 0, takeL (numS s 2) (numN s 2), 0, 0, 0⟩
  else if k = 3 then ⟨3, wrap64 (wrap32 (numN s 4)), [], 0, 0, 0⟩
  else if k = 5 then ⟨5, wrap64 (numN s 8), [], 0, 0, 0⟩
  else if k = 7 ∨ k = 8 then ⟨k, 0, [], numN s 2, 0, 0⟩
  else if k = 9 ∨ k = 10 ∨ k = 11 then ⟨k, 0, [], numN s 2, numN (numS s 2) 2, numN (numS (numS s 2) 2) 2⟩
  else ⟨k, 0, [], 0, 0, 0⟩
def bodyS (k : Nat) (s : St) : St :=
  if k = 1 then takeS (numS s 2) (numN s 2)
  else if k = 3 then numS s 4
  else if k = 5 then numS s 8
  else if k = 7 ∨ k = 8 then numS s 2
  else if k = 9 ∨ k = 10 ∨ k = 11 then numS (numS (numS s 2) 2) 2
  else s
def knownK (k : Nat) : Bool := k == 1 || k == 3 || k == 5 || k == 7 || k == 8 || k == 9 || k == 10 || k == 11
/-- One constant: what errs (0: nothing), the constant, the reader behind it. -/
def entX (s : St) : Nat := if (bodyS (numN s 1) (numS s 1)).2 then 11 else if knownK (numN s 1) then 0 else 12
def entE (s : St) : Ent := bodyE (numN s 1) (numS s 1)
def entS (s : St) : St := bodyS (numN s 1) (numS s 1)
/-- k constants, behind those of acc. -/
def rdEnts : Nat → St → List Ent → Nat × List Ent × St
  | 0, s, acc => (0, acc, s)
  | k + 1, s, acc => if entX s = 0 then rdEnts k (entS s) (acc ++ [entE s]) else (entX s, [], entS s)
theorem rdEnts_zero (s : St) (acc : List Ent) : rdEnts 0 s acc = (0, acc, s) := rfl
theorem rdEnts_on (k : Nat) (s : St) (acc : List Ent) (h : entX s = 0) : rdEnts (k + 1) s acc = rdEnts k (entS s) (acc ++ [entE s]) := by rw [rdEnts, if_pos h]
theorem rdEnts_no (k : Nat) (s : St) (acc : List Ent) (h : entX s ≠ 0) : rdEnts (k + 1) s acc = (entX s, [], entS s) := by rw [rdEnts, if_neg h]
/-- All constants as they are told, and one in front that no bytes tell. -/
def rdHead (s : St) : Nat × List Ent × St :=
  if (numS s 2).2 then (11, [], numS s 2)
  else if numN s 2 = 0 ∨ 1000 < numN s 2 then (12, [], numS s 2)
  else rdEnts (numN s 2 - 1) (numS s 2) [Ent.zero]
/-- Constant i, if it is of this kind. -/
def entAt (l : List Ent) (i k : Nat) : Option Ent := match l[i]? with
  | some x => if x.kind = k then some x else none
  | none => none
def namedB (s : Bs) : Bool := nameB s false || (s.head? == some 91 && typeB s)
def descB (s : Bs) (m : Bool) : Bool := if m then (metB s).isSome else typeB s
def textAt (l : List Ent) (i : Nat) : Option Bs := (entAt l i 1).map (·.text)
def classAt (l : List Ent) (i : Nat) : Option Bs := (entAt l i 7).bind fun x => textAt l x.a
/-- A constant with what it names: what errs (0: nothing), the constant. -/
def resText (l : List Ent) (x : Ent) : Nat × Con := match textAt l x.a with
  | none => (12, Con.zero)
  | some t => if x.kind = 7 ∧ namedB t = false then (20, Con.zero) else (0, ⟨x.kind, x.num, t, [], []⟩)
def resMem (l : List Ent) (x : Ent) : Nat × Con := match classAt l x.a, textAt l x.b, textAt l x.d with
  | some c, some n, some t =>
    if nameB c false = false ∨ nameB n (decide (x.kind ≠ 9)) = false then (20, Con.zero)
    else if descB t (decide (x.kind ≠ 9)) = false then (21, Con.zero)
    else (0, ⟨x.kind, x.num, c, n, t⟩)
  | _, _, _ => (12, Con.zero)
def resOne (l : List Ent) (x : Ent) : Nat × Con :=
  if x.kind = 7 ∨ x.kind = 8 then resText l x
  else if x.kind = 9 ∨ x.kind = 10 ∨ x.kind = 11 then resMem l x
  else (0, ⟨x.kind, x.num, x.text, [], []⟩)
/-- The constants of rest, behind those of acc. -/
def resAll (l : List Ent) : List Ent → List Con → Nat × List Con
  | [], acc => (0, acc)
  | x :: rest, acc => if (resOne l x).1 = 0 then resAll l rest (acc ++ [(resOne l x).2]) else ((resOne l x).1, [])
theorem resAll_nil (l : List Ent) (acc : List Con) : resAll l [] acc = (0, acc) := rfl
theorem resAll_on (l : List Ent) (x : Ent) (rest : List Ent) (acc : List Con) (h : (resOne l x).1 = 0) : resAll l (x :: rest) acc = resAll l rest (acc ++ [(resOne l x).2]) := by rw [resAll, if_pos h]
theorem resAll_no (l : List Ent) (x : Ent) (rest : List Ent) (acc : List Con) (h : (resOne l x).1 ≠ 0) : resAll l (x :: rest) acc = ((resOne l x).1, []) := by rw [resAll, if_neg h]
/-- A pool: what errs, its constants, the reader behind it. -/
def poolX (s : St) : Nat := if (rdHead s).1 ≠ 0 then (rdHead s).1 else (resAll (rdHead s).2.1 (rdHead s).2.1 []).1
def poolL (s : St) : List Con := if (rdHead s).1 ≠ 0 then [] else (resAll (rdHead s).2.1 (rdHead s).2.1 []).2
def poolS (s : St) : St := (rdHead s).2.2
end Go.Proofs.Ytogbieehpppnaaa
