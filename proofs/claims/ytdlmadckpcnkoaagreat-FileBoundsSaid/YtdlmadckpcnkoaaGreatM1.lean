/- Texts of this claim, joined: PoolMath, PoolFacts, FileMath. -/
import Derived.Test.YtdlmadckpcnkoaaGreatDescMath
import Derived.RowKit
/- Plain words on bytes, pools and their constants for package pool. No program in this text. -/
namespace Go.Proofs.YtdlmadckpcnkoaaGreat
open Go Go.RowKit
set_option linter.unusedVariables false

/-- A reader: the bytes left, and whether some were missing. -/
abbrev St := Bs × Bool
def takeL (s : St) (n : Int) : Bs := if n < 0 ∨ (s.1.length : Int) < n then [] else s.1.take n.toNat
def takeS (s : St) (n : Int) : St := if n < 0 ∨ (s.1.length : Int) < n then ([], true) else (s.1.drop n.toNat, s.2)
def beB (l : Bs) : Nat := l.foldl (fun x c => x * 256 + c.toNat) 0
def numN (s : St) (n : Int) : Nat := if n < 1 ∨ 8 < n then 0 else beB (takeL s n)
def numS (s : St) (n : Int) : St := if n < 1 ∨ 8 < n then s else takeS s n

theorem takeL_no {s : St} {n : Int} (h : n < 0 ∨ (s.1.length : Int) < n) : takeL s n = [] := by unfold takeL; rw [if_pos h]
theorem takeL_yes {s : St} {n : Int} (h : ¬ (n < 0 ∨ (s.1.length : Int) < n)) : takeL s n = s.1.take n.toNat := by unfold takeL; rw [if_neg h]
theorem takeS_no {s : St} {n : Int} (h : n < 0 ∨ (s.1.length : Int) < n) : takeS s n = ([], true) := by unfold takeS; rw [if_pos h]
theorem takeS_yes {s : St} {n : Int} (h : ¬ (n < 0 ∨ (s.1.length : Int) < n)) : takeS s n = (s.1.drop n.toNat, s.2) := by unfold takeS; rw [if_neg h]
theorem numN_no {s : St} {n : Int} (h : n < 1 ∨ 8 < n) : numN s n = 0 := by unfold numN; rw [if_pos h]
theorem numN_yes {s : St} {n : Int} (h : ¬ (n < 1 ∨ 8 < n)) : numN s n = beB (takeL s n) := by unfold numN; rw [if_neg h]
theorem numS_no {s : St} {n : Int} (h : n < 1 ∨ 8 < n) : numS s n = s := by unfold numS; rw [if_pos h]
theorem numS_yes {s : St} {n : Int} (h : ¬ (n < 1 ∨ 8 < n)) : numS s n = takeS s n := by unfold numS; rw [if_neg h]
theorem beB_nil : beB [] = 0 := rfl
theorem beB_snoc (l : Bs) (c : UInt8) : beB (l ++ [c]) = beB l * 256 + c.toNat := by unfold beB; rw [List.foldl_append]; rfl
theorem beB_lt : ∀ (n : Nat) (l : Bs), l.length = n → beB l < 256 ^ n := by
  intro n
  induction n with
  | zero => intro l h; rw [List.length_eq_zero_iff.1 h]; simp [beB_nil]
  | succ n ih =>
    intro l h
    have hne : l ≠ [] := by rintro rfl; simp at h
    rw [← List.dropLast_concat_getLast hne, beB_snoc]
    have h1 := ih l.dropLast (by simp [h])
    have h2 := (l.getLast hne).toNat_lt
    rw [Nat.pow_succ]
    omega
theorem takeL_len (s : St) (n : Int) : (takeL s n).length = 0 ∨ ((takeL s n).length : Int) = n := by
  by_cases h : n < 0 ∨ (s.1.length : Int) < n
  · rw [takeL_no h]; exact .inl rfl
  · rw [takeL_yes h, List.length_take]; omega
theorem pow_mono (a b : Nat) (h : a ≤ b) : 256 ^ a ≤ 256 ^ b := Nat.pow_le_pow_right (by omega) h
theorem numN_lt (s : St) (n k : Nat) (hn : n ≤ k) : numN s n < 256 ^ k := by
  have hp : 0 < 256 ^ k := Nat.pow_pos (by omega)
  by_cases h : (n : Int) < 1 ∨ 8 < (n : Int)
  · rw [numN_no h]; exact hp
  · rw [numN_yes h]
    refine Nat.lt_of_lt_of_le (beB_lt _ _ rfl) (pow_mono _ _ ?_)
    have := takeL_len s n
    omega
theorem num1_lt (s : St) : numN s 1 < 256 := numN_lt s 1 1 (Nat.le_refl _)
theorem num2_lt (s : St) : numN s 2 < 65536 := numN_lt s 2 2 (Nat.le_refl _)
theorem num4_lt (s : St) : numN s 4 < 4294967296 := numN_lt s 4 4 (Nat.le_refl _)
theorem numN_lt64 (s : St) (n : Int) : numN s n < 18446744073709551616 := by
  by_cases h : n < 1 ∨ 8 < n
  · rw [numN_no h]; omega
  · rw [numN_yes h]
    refine Nat.lt_of_lt_of_le (beB_lt _ _ rfl) ?_
    have h1 := takeL_len s n
    exact Nat.le_trans (pow_mono _ 8 (by omega)) (by decide)
theorem takeS_le (s : St) (n : Int) : (takeS s n).1.length ≤ s.1.length := by
  by_cases h : n < 0 ∨ (s.1.length : Int) < n
  · rw [takeS_no h]; simp
  · rw [takeS_yes h]; simp
theorem numS_le (s : St) (n : Int) : (numS s n).1.length ≤ s.1.length := by
  by_cases h : n < 1 ∨ 8 < n
  · rw [numS_no h]; exact Nat.le_refl _
  · rw [numS_yes h]; exact takeS_le s n
theorem takeS_suffix (s : St) (n : Int) : ∃ k, (takeS s n).1 = s.1.drop k := by
  by_cases h : n < 0 ∨ (s.1.length : Int) < n
  · rw [takeS_no h]; exact ⟨s.1.length, by simp⟩
  · rw [takeS_yes h]; exact ⟨_, rfl⟩

/-- A constant as its bytes tell it. -/
structure Ent where
  kind : Nat
  num : Int
  text : Bs
  a : Nat
  b : Nat
  d : Nat
def Ent.zero : Ent := ⟨0, 0, [], 0, 0, 0⟩
/-- A constant as the caller has it. -/
structure Con where
  kind : Nat
  num : Int
  text : Bs
  name : Bs
  desc : Bs
def Con.zero : Con := ⟨0, 0, [], [], []⟩
/-- The bytes behind a kind: the constant, and where the reader stands then. -/
def bodyE (k : Nat) (s : St) : Ent :=
  if k = 1 then ⟨1, 0, takeL (numS s 2) (numN s 2), 0, 0, 0⟩
  else if k = 3 then ⟨3, wrap64 (wrap32 (numN s 4)), [], 0, 0, 0⟩
  else if k = 5 then ⟨5, wrap64 (numN s 8), [], 0, 0, 0⟩
  else if k = 7 ∨ k = 8 then ⟨k, 0, [], numN s 2, 0, 0⟩
  else if k = 9 ∨ k = 10 ∨ k = 11 then ⟨k, 0, [], numN s 2, numN (numS s 2) 2, numN (numS (numS s 2) 2) 2⟩
  else ⟨k, 0, [], 0, 0, 0⟩
def bodyS (k : Nat) (s : St) : St :=
  if k = 1 then takeS (numS s 2) (numN s 2)
  else if k = 3 then numS s 4
  else if k = 5 then numS s 8
  else if k = 7 ∨ k = 8 then numS s 2
  else if k = 9 ∨ k = 10 ∨ k = 11 then numS (numS (numS s 2) 2) 2
  else s
def knownK (k : Nat) : Bool := k == 1 || k == 3 || k == 5 || k == 7 || k == 8 || k == 9 || k == 10 || k == 11
/-- One constant: what errs (0: nothing), the constant, the reader behind it. -/
def entX (s : St) : Nat := if (bodyS (numN s 1) (numS s 1)).2 then 11 else if knownK (numN s 1) then 0 else 12
def entE (s : St) : Ent := bodyE (numN s 1) (numS s 1)
def entS (s : St) : St := bodyS (numN s 1) (numS s 1)
/-- k constants, behind those of acc. -/
def rdEnts : Nat → St → List Ent → Nat × List Ent × St
  | 0, s, acc => (0, acc, s)
  | k + 1, s, acc => if entX s = 0 then rdEnts k (entS s) (acc ++ [entE s]) else (entX s, [], entS s)
theorem rdEnts_zero (s : St) (acc : List Ent) : rdEnts 0 s acc = (0, acc, s) := rfl
theorem rdEnts_on (k : Nat) (s : St) (acc : List Ent) (h : entX s = 0) : rdEnts (k + 1) s acc = rdEnts k (entS s) (acc ++ [entE s]) := by rw [rdEnts, if_pos h]
theorem rdEnts_no (k : Nat) (s : St) (acc : List Ent) (h : entX s ≠ 0) : rdEnts (k + 1) s acc = (entX s, [], entS s) := by rw [rdEnts, if_neg h]
/-- All constants as they are told, and one in front that no bytes tell. -/
def rdHead (s : St) : Nat × List Ent × St :=
  if (numS s 2).2 then (11, [], numS s 2)
  else if numN s 2 = 0 ∨ 1000 < numN s 2 then (12, [], numS s 2)
  else rdEnts (numN s 2 - 1) (numS s 2) [Ent.zero]
/-- Constant i, if it is of this kind. -/
def entAt (l : List Ent) (i k : Nat) : Option Ent := match l[i]? with
  | some x => if x.kind = k then some x else none
  | none => none
def namedB (s : Bs) : Bool := nameB s false || (s.head? == some 91 && typeB s)
def descB (s : Bs) (m : Bool) : Bool := if m then (metB s).isSome else typeB s
def textAt (l : List Ent) (i : Nat) : Option Bs := (entAt l i 1).map (·.text)
def classAt (l : List Ent) (i : Nat) : Option Bs := (entAt l i 7).bind fun x => textAt l x.a
/-- A constant with what it names: what errs (0: nothing), the constant. -/
def resText (l : List Ent) (x : Ent) : Nat × Con := match textAt l x.a with
  | none => (12, Con.zero)
  | some t => if x.kind = 7 ∧ namedB t = false then (20, Con.zero) else (0, ⟨x.kind, x.num, t, [], []⟩)
def resMem (l : List Ent) (x : Ent) : Nat × Con := match classAt l x.a, textAt l x.b, textAt l x.d with
  | some c, some n, some t =>
    if nameB c false = false ∨ nameB n (decide (x.kind ≠ 9)) = false then (20, Con.zero)
    else if descB t (decide (x.kind ≠ 9)) = false then (21, Con.zero)
    else (0, ⟨x.kind, x.num, c, n, t⟩)
  | _, _, _ => (12, Con.zero)
def resOne (l : List Ent) (x : Ent) : Nat × Con :=
  if x.kind = 7 ∨ x.kind = 8 then resText l x
  else if x.kind = 9 ∨ x.kind = 10 ∨ x.kind = 11 then resMem l x
  else (0, ⟨x.kind, x.num, x.text, [], []⟩)
/-- The constants of rest, behind those of acc. -/
def resAll (l : List Ent) : List Ent → List Con → Nat × List Con
  | [], acc => (0, acc)
  | x :: rest, acc => if (resOne l x).1 = 0 then resAll l rest (acc ++ [(resOne l x).2]) else ((resOne l x).1, [])
theorem resAll_nil (l : List Ent) (acc : List Con) : resAll l [] acc = (0, acc) := rfl
theorem resAll_on (l : List Ent) (x : Ent) (rest : List Ent) (acc : List Con) (h : (resOne l x).1 = 0) : resAll l (x :: rest) acc = resAll l rest (acc ++ [(resOne l x).2]) := by rw [resAll, if_pos h]
theorem resAll_no (l : List Ent) (x : Ent) (rest : List Ent) (acc : List Con) (h : (resOne l x).1 ≠ 0) : resAll l (x :: rest) acc = ((resOne l x).1, []) := by rw [resAll, if_neg h]
/-- A pool: what errs, its constants, the reader behind it. -/
def poolX (s : St) : Nat := if (rdHead s).1 ≠ 0 then (rdHead s).1 else (resAll (rdHead s).2.1 (rdHead s).2.1 []).1
def poolL (s : St) : List Con := if (rdHead s).1 ≠ 0 then [] else (resAll (rdHead s).2.1 (rdHead s).2.1 []).2
def poolS (s : St) : St := (rdHead s).2.2
end Go.Proofs.YtdlmadckpcnkoaaGreat
/- What holds of the constants of a pool. No program in this text. -/
namespace Go.Proofs.YtdlmadckpcnkoaaGreat
open Go Go.RowKit
set_option linter.unusedVariables false

/-- What holds of the constants that are told, one behind the other. -/
theorem rdEnts_ok (P : Ent → Prop) (hP : ∀ s, entX s = 0 → P (entE s)) : ∀ (k : Nat) (s : St) (acc : List Ent), (rdEnts k s acc).1 = 0 → ∃ t, (rdEnts k s acc).2.1 = acc ++ t ∧ t.length = k ∧ ∀ x, x ∈ t → P x
  | 0, s, acc, _ => ⟨[], by simp [rdEnts], rfl, by simp⟩
  | k + 1, s, acc, h => by
    by_cases hx : entX s = 0
    · rw [rdEnts_on k s acc hx] at h ⊢
      obtain ⟨t, h1, h2, h3⟩ := rdEnts_ok P hP k (entS s) _ h
      refine ⟨entE s :: t, by rw [h1]; simp, by simp [h2], fun x hm => ?_⟩
      rcases List.mem_cons.1 hm with rfl | hm
      · exact hP s hx
      · exact h3 x hm
    · rw [rdEnts_no k s acc hx] at h
      exact absurd h hx
theorem entX_ok (s : St) (h : entX s = 0) : knownK (numN s 1) = true ∧ (entS s).2 = false := by
  unfold entX at h
  unfold entS
  cases hb : (bodyS (numN s 1) (numS s 1)).2
  · rw [hb] at h
    cases hk : knownK (numN s 1)
    · rw [hk] at h; simp at h
    · exact ⟨rfl, rfl⟩
  · rw [hb] at h; simp at h
theorem takeL_short (s : St) (n : Nat) : (takeL s n).length ≤ n := by
  have := takeL_len s n
  omega
theorem bodyE_kind (k : Nat) (s : St) : (bodyE k s).kind = k := by
  unfold bodyE
  split
  · rename_i h; exact h.symm
  split
  · rename_i h; exact h.symm
  split
  · rename_i h; exact h.symm
  split
  · rfl
  split <;> rfl
theorem bodyE_text (k : Nat) (s : St) : (bodyE k s).text.length < 65536 := by
  unfold bodyE
  split
  · have h1 := takeL_short (numS s 2) (numN s 2)
    have h2 := num2_lt s
    show (takeL (numS s 2) (numN s 2)).length < _
    omega
  split
  · exact Nat.zero_lt_succ _
  split
  · exact Nat.zero_lt_succ _
  split
  · exact Nat.zero_lt_succ _
  split <;> exact Nat.zero_lt_succ _
/-- A constant of a pool: of a kind that there is, its text short. -/
def GoodE (x : Ent) : Prop := knownK x.kind = true ∧ x.text.length < 65536
theorem entE_good (s : St) (h : entX s = 0) : GoodE (entE s) := by
  unfold entE GoodE
  rw [bodyE_kind]
  exact ⟨(entX_ok s h).1, bodyE_text _ _⟩
theorem rdHead_ok (s : St) (h : (rdHead s).1 = 0) : ∃ t, (rdHead s).2.1 = Ent.zero :: t ∧ t.length + 1 ≤ 1000 ∧ t.length + 1 = numN s 2 ∧ ∀ x, x ∈ t → GoodE x := by
  unfold rdHead at h ⊢
  cases hb : (numS s 2).2
  · rw [hb] at h
    simp only [Bool.false_eq_true, if_false] at h ⊢
    by_cases hn : numN s 2 = 0 ∨ 1000 < numN s 2
    · rw [if_pos hn] at h; simp at h
    · rw [if_neg hn] at h ⊢
      obtain ⟨t, h1, h2, h3⟩ := rdEnts_ok GoodE entE_good _ _ _ h
      exact ⟨t, h1, by omega, by omega, h3⟩
  · rw [hb] at h; simp at h
end Go.Proofs.YtdlmadckpcnkoaaGreat
/- Plain words on class files for package file. No program in this text. -/
namespace Go.Proofs.YtdlmadckpcnkoaaGreat
open Go Go.RowKit
set_option linter.unusedVariables false

/-- What reading comes to: a thing and the bytes behind it, or what is wrong. -/
inductive Pr (α : Type) where
  | ok (a : α) (r : Bs)
  | er (x : Nat)
def Pr.then {α β : Type} : Pr α → (α → Bs → Pr β) → Pr β
  | .ok a r, k => k a r
  | .er x, _ => .er x
theorem Pr.then_ok {α β : Type} {p : Pr α} {a : α} {r : Bs} (h : p = .ok a r) (k : α → Bs → Pr β) : p.then k = k a r := by rw [h]; rfl
theorem Pr.then_er {α β : Type} {p : Pr α} {x : Nat} (h : p = .er x) (k : α → Bs → Pr β) : p.then k = .er x := by rw [h]; rfl
structure Fld where
  flags : Nat
  name : Bs
  desc : Bs
structure Rw where
  fr : Nat
  to : Nat
  at_ : Nat
  cls : Bs
structure Frm where
  pc : Nat
  locals : List Bs
  stack : List Bs
structure Met where
  flags : Nat
  name : Bs
  desc : Bs
  stack : Nat
  locals : Nat
  code : Bs
  rows : List Rw
  frames : List Frm
structure Cls where
  flags : Nat
  name : Bs
  super : Bs
  ifaces : List Bs
  pool : List Con
  fields : List Fld
  methods : List Met
/-- A number of n bytes. -/
def numP (n : Nat) (s : Bs) : Pr Nat := if s.length < n then .er 11 else .ok (beB (s.take n)) (s.drop n)
def cntP (n most : Nat) (s : Bs) : Pr Nat := (numP n s).then fun k r => if most < k then .er 2 else .ok k r
/-- Constant i of a pool, if it is of this kind. -/
def kAt (L : List Con) (i k : Nat) : Option Con := match L[i]? with
  | some c => if c.kind = k then some c else none
  | none => none
def atP (L : List Con) (i k : Nat) (s : Bs) : Pr Con := match kAt L i k with
  | some c => .ok c s
  | none => .er 12
def conP (L : List Con) (k : Nat) (s : Bs) : Pr Con := (numP 2 s).then fun i r => atP L i k r
/-- A class's name that may be no array's: x, where it is one. -/
def flatP (x : Nat) (t : Bs) (s : Bs) : Pr Bs := if t.head? = some 91 then .er x else .ok t s
def clsP (L : List Con) (s : Bs) : Pr Bs := (conP L 7 s).then fun c r => flatP 20 c.text r
def flgP (bits : Nat) (s : Bs) : Pr Nat := (numP 2 s).then fun f r => if f &&& bits = f then .ok f r else .er 22
def memP (L : List Con) (s : Bs) : Pr (Bs × Bs) := (conP L 1 s).then fun a r => (conP L 1 r).then fun b r2 => .ok (a.text, b.text) r2
def fldJ (cf f : Nat) (m : Bs × Bs) (s : Bs) : Pr Fld :=
  if nameB m.1 false = false then .er 20 else if typeB m.2 = false then .er 21 else if cf &&& 512 ≠ 0 ∧ f = 0 then .er 22 else .ok ⟨f, m.1, m.2⟩ s
def fldP (L : List Con) (cf : Nat) (s : Bs) : Pr Fld := (flgP 8 s).then fun f r => (memP L r).then fun m r2 => fldJ cf f m r2
/-- n things, behind those of acc. -/
def manyP {α : Type} (p : Bs → Pr α) : Nat → Bs → List α → Pr (List α)
  | 0, s, acc => .ok acc s
  | n + 1, s, acc => (p s).then fun a r => manyP p n r (acc ++ [a])
def cghP (L : List Con) (s : Bs) : Pr Bs := (numP 2 s).then fun i r => if i = 0 then .ok [] r else (atP L i 7 r).then fun c r2 => flatP 12 c.text r2
def rowP (L : List Con) (s : Bs) : Pr Rw := (numP 2 s).then fun a r => (numP 2 r).then fun b r2 => (numP 2 r2).then fun c r3 => (cghP L r3).then fun t r4 => .ok ⟨a, b, c, t⟩ r4
def typP (L : List Con) (s : Bs) : Pr Bs := (numP 1 s).then fun k r =>
  if k = 0 then .ok [] r else if k = 1 then .ok [73] r else if k = 2 then .ok [74] r else if k = 3 then .ok [78] r
  else if k = 4 then (conP L 7 r).then fun c r2 => .ok (ofL c.text) r2 else .er 60
def tysP (L : List Con) (most : Nat) (s : Bs) : Pr (List Bs) := (cntP 1 most s).then fun n r => manyP (typP L) n r []
def frmP (L : List Con) (s : Bs) : Pr Frm := (numP 2 s).then fun pc r => (tysP L 40 r).then fun a r2 => (tysP L 20 r2).then fun b r3 => .ok ⟨pc, a, b⟩ r3
/-- n bytes. -/
def bytP (n : Nat) (s : Bs) : Pr Bs := if s.length < n then .er 11 else .ok (s.take n) (s.drop n)
def bdyP (L : List Con) (f : Nat) (m : Bs × Bs) (s : Bs) : Pr Met :=
  (cntP 2 20 s).then fun st r => (cntP 2 40 r).then fun lo r2 => (cntP 2 4000 r2).then fun n r3 => (bytP n r3).then fun code r4 =>
  (cntP 2 60 r4).then fun k r5 => (manyP (rowP L) k r5 []).then fun rows r6 => (cntP 2 4000 r6).then fun q r7 => (manyP (frmP L) q r7 []).then fun frames r8 =>
  .ok ⟨f, m.1, m.2, st, lo, code, rows, frames⟩ r8
def metFit (cf f : Nat) : Bool := if f &&& 1024 = 0 then decide (cf &&& 512 = 0) else decide (cf &&& 1024 ≠ 0) && decide (f &&& 8 = 0)
def metJ (L : List Con) (cf f : Nat) (m : Bs × Bs) (s : Bs) : Pr Met :=
  if nameB m.1 true = false then .er 20 else if (metB m.2).isSome = false then .er 21 else if metFit cf f = false then .er 22
  else if f &&& 1024 = 0 then bdyP L f m s else .ok ⟨f, m.1, m.2, 0, 0, [], [], []⟩ s
def metP (L : List Con) (cf : Nat) (s : Bs) : Pr Met := (flgP 1032 s).then fun f r => (memP L r).then fun m r2 => metJ L cf f m r2
/-- What stands behind the pool. -/
def behP (L : List Con) (s : Bs) : Pr Cls :=
  (flgP 1536 s).then fun cf r => if cf = 512 then .er 22 else
  (clsP L r).then fun nm r2 => (clsP L r2).then fun sp r3 =>
  (cntP 2 8 r3).then fun a r4 => (manyP (clsP L) a r4 []).then fun is r5 =>
  (cntP 2 60 r5).then fun b r6 => (manyP (fldP L cf) b r6 []).then fun fs r7 =>
  (cntP 2 60 r7).then fun c r8 => (manyP (metP L cf) c r8 []).then fun ms r9 =>
  .ok ⟨cf, nm, sp, is, L, fs, ms⟩ r9
def fKeys (c : Cls) : List (Bs × Bs) := c.fields.map fun f => (f.name, [])
def mKeys (c : Cls) : List (Bs × Bs) := c.methods.map fun m => (m.name, m.desc)
def twiceB : List (Bs × Bs) → Bool
  | [] => false
  | k :: r => r.contains k || twiceB r
/-- A class file: what is wrong (0: nothing), the class. -/
def endC (c : Cls) (s : Bs) : Pr Cls := if s ≠ [] then .er 11 else if twiceB (fKeys c) || twiceB (mKeys c) then .er 23 else .ok c []
def filP (s : Bs) : Pr Cls :=
  if s.length < 4 ∨ s.take 4 ≠ [82, 69, 71, 76] then .er 10
  else if poolX (s.drop 4, false) ≠ 0 then .er (poolX (s.drop 4, false))
  else (behP (poolL (s.drop 4, false)) (poolS (s.drop 4, false)).1).then endC
def parP (s : Bs) : Pr Cls := if 65536 < s.length then .er 2 else filP s
end Go.Proofs.YtdlmadckpcnkoaaGreat
