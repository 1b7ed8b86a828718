/- Texts of this claim, joined: DescMath, PoolMath, PoolMem, PoolRows. -/
import Derived.Lib.Bytealg
import Derived.RowKit
import Derived.Below
import Derived.Deep.Draws
import Derived.Deep.OwnRows
import Derived.Laws.IdiomCopy
import Derived.Laws.MakeOwn
namespace Go.Proofs.YtgihfcimngogfaaGreat
set_option linter.unusedVariables false
abbrev Bs := List UInt8
def inN (c : UInt8) : Bool := (97 ≤ c && c ≤ 122) || (65 ≤ c && c ≤ 90) || (48 ≤ c && c ≤ 57) || c == 95 || c == 36 || c == 47
def inM (c : UInt8) : Bool := c == 60 || c == 62
def okc (m : Bool) (c : UInt8) : Bool := inN c || (m && inM c)
def nameB (l : Bs) (m : Bool) : Bool := decide (1 ≤ l.length) && decide (l.length ≤ 60) && l.all (okc m)
def brk : Bs → Nat
 | [] => 0
 | c :: l => if c == 91 then brk l + 1 else 0
def plainB (l : Bs) : Bool := l == [73] || l == [74] || (decide (2 < l.length) && l.head? == some 76 && l.getLast? == some 59 && nameB ((l.drop 1).take (l.length - 2)) false)
def typeB (l : Bs) : Bool := decide (brk l ≤ 8) && plainB (l.drop (brk l))
def arr8 (l : Bs) : Nat := if brk l ≤ 8 then brk l else 8
def plen (l : Bs) : Nat :=
 if l.head? == some 73 || l.head? == some 74 then 1
 else if Go.Lib.indexByte l 59 < 0 then 0
 else if (l.take (Go.Lib.indexByte l 59).toNat).head? == some 76 && nameB ((l.take (Go.Lib.indexByte l 59).toNat).drop 1) false then (Go.Lib.indexByte l 59).toNat + 1 else 0
def tlen (l : Bs) : Nat := if plen (l.drop (arr8 l)) = 0 then 0 else arr8 l + plen (l.drop (arr8 l))
theorem ix_nil (c : UInt8) : Go.Lib.indexByte [] c = -1 := rfl
theorem ix_hit (c : UInt8) (l : Bs) : Go.Lib.indexByte (c :: l) c = 0 := by unfold Go.Lib.indexByte; simp
theorem ix_app (c : UInt8) : ∀ (l r : Bs), c ∉ l → Go.Lib.indexByte (l ++ c :: r) c = l.length
 | [], r, _ => by simpa using ix_hit c r
 | b :: l, r, h => by
  have hb : b ≠ c := fun e => h (by simp [e])
  have ih := ix_app c l r (fun h' => h (by simp [h']))
  rw [List.cons_append]
  unfold Go.Lib.indexByte
  rw [ih]
  have e1 : (b == c) = false := by simpa using hb
  have e2 : ((l.length : Int) == -1) = false := by rw [beq_eq_false_iff_ne]; omega
  simp [e1, e2]
theorem ix_ge (l : Bs) (c : UInt8) : -1 ≤ Go.Lib.indexByte l c := Go.Lib.indexByte_ge l c
theorem ix_split (c : UInt8) : ∀ (l : Bs), 0 ≤ Go.Lib.indexByte l c → ∃ r, l = l.take (Go.Lib.indexByte l c).toNat ++ c :: r ∧ (Go.Lib.indexByte l c).toNat < l.length
 | [], h => by simp [ix_nil] at h
 | b :: l, h => by
  by_cases hb : b = c
  ·subst hb
   exact ⟨l, by rw [ix_hit]; simp, by rw [ix_hit]; simp⟩
  ·have e1 : (b == c) = false := by simpa using hb
   have e : Go.Lib.indexByte (b :: l) c = if Go.Lib.indexByte l c == -1 then -1 else Go.Lib.indexByte l c + 1 := by
    rw [show Go.Lib.indexByte (b :: l) c = if b == c then 0 else if Go.Lib.indexByte l c == -1 then -1 else Go.Lib.indexByte l c + 1 from rfl, e1]
    simp
   have hge := ix_ge l c
   by_cases hm : Go.Lib.indexByte l c = -1
   ·rw [e, hm] at h; simp at h
   ·have e2 : (Go.Lib.indexByte l c == -1) = false := by simpa using hm
    rw [e2] at e
    have e3 : Go.Lib.indexByte (b :: l) c = Go.Lib.indexByte l c + 1 := by simpa using e
    obtain ⟨r, h1, h2⟩ := ix_split c l (by omega)
    have e4 : (Go.Lib.indexByte (b :: l) c).toNat = (Go.Lib.indexByte l c).toNat + 1 := by omega
    refine ⟨r, ?_, by rw [e4]; simpa using h2⟩
    rw [e4, List.take_succ_cons, List.cons_append, ← h1]
def Plain (p : Bs) : Prop := p = [73] ∨ p = [74] ∨ ∃ nm, nameB nm false = true ∧ p = 76 :: nm ++ [59]
theorem name_no (nm : Bs) (h : nameB nm false = true) : (59 : UInt8) ∉ nm ∧ (91 : UInt8) ∉ nm := by
 unfold nameB at h
 simp only [Bool.and_eq_true, List.all_eq_true] at h
 constructor <;> (intro hm; have := h.2 _ hm; revert this; decide)
theorem name_len (nm : Bs) (m : Bool) (h : nameB nm m = true) : 1 ≤ nm.length ∧ nm.length ≤ 60 := by
 unfold nameB at h
 simp only [Bool.and_eq_true, decide_eq_true_eq] at h
 exact h.1
theorem Plain.head {p : Bs} (h : Plain p) : ∃ c q, p = c :: q ∧ c ≠ 91 := by
 rcases h with rfl | rfl | ⟨nm, _, rfl⟩
 ·exact ⟨_, _, rfl, by decide⟩
 ·exact ⟨_, _, rfl, by decide⟩
 ·exact ⟨_, _, rfl, by decide⟩
theorem Plain.pos {p : Bs} (h : Plain p) : 0 < p.length := by
 obtain ⟨c, q, rfl, _⟩ := h.head
 simp
theorem plain_iff (l : Bs) : plainB l = true ↔ Plain l := by
 unfold plainB Plain
 simp only [Bool.or_eq_true, Bool.and_eq_true, beq_iff_eq, decide_eq_true_eq]
 constructor
 ·rintro ((h | h) | ⟨⟨⟨h1, h2⟩, h3⟩, h4⟩)
  ·exact .inl h
  ·exact .inr (.inl h)
  ·refine .inr (.inr ⟨_, h4, ?_⟩)
   cases l with
   | nil => simp at h2
   | cons c q =>
    simp only [List.head?_cons, Option.some.injEq] at h2
    subst h2
    have hq : q ≠ [] := by rintro rfl; simp at h1
    have h5 : q.getLast? = some 59 := by rw [List.getLast?_cons] at h3; rw [List.getLast?_eq_some_getLast hq] at h3 ⊢; simpa using h3
    have h6 : q.getLast hq = 59 := by rw [List.getLast?_eq_some_getLast hq] at h5; simpa using h5
    have h7 : q = q.take (q.length - 1) ++ [59] := by
     rw [← List.dropLast_eq_take, ← h6, List.dropLast_concat_getLast]
    simp only [List.drop_succ_cons, List.drop_zero, List.length_cons, List.cons_append]
    rw [show q.length + 1 - 2 = q.length - 1 by omega, ← h7]
 ·rintro (h | h | ⟨nm, h1, rfl⟩)
  ·exact .inl (.inl h)
  ·exact .inl (.inr h)
  ·have hl := name_len nm _ h1
   refine .inr ⟨⟨⟨by simp; omega, by simp⟩, ?_⟩, ?_⟩
   ·rw [List.getLast?_append]; simp
   ·simpa using h1
theorem brk_rep (k : Nat) (q : Bs) (h : ∀ c r, q = c :: r → c ≠ 91) : brk (List.replicate k 91 ++ q) = k := by
 induction k with
 | zero =>
  cases q with
  | nil => rfl
  | cons c r =>
   have := h c r rfl
   simp [brk, this]
 | succ k ih => simp [List.replicate_succ, brk, ih]
theorem brk_split (l : Bs) : ∀ k, k ≤ brk l → l = List.replicate k 91 ++ l.drop k := by
 induction l with
 | nil => intro k hk; simp [brk] at hk; subst hk; rfl
 | cons c r ih =>
  intro k hk
  cases k with
  | zero => simp
  | succ k =>
   by_cases hc : c = 91
   ·subst hc
    simp [brk] at hk
    rw [List.replicate_succ, List.cons_append, List.drop_succ_cons, ← ih k hk]
   ·simp [brk, hc] at hk
theorem brk_le (l : Bs) : brk l ≤ l.length := by
 induction l with
 | nil => simp [brk]
 | cons c r ih =>
  unfold brk
  split
  ·simpa using ih
  ·simp
theorem brk_at (l : Bs) (k : Nat) (h : k < brk l) : l[k]? = some 91 := by
 have := brk_split l (k + 1) h
 rw [this, List.getElem?_append_left (by simp)]
 simp
theorem brk_stop (l : Bs) : l[brk l]? ≠ some 91 := by
 induction l with
 | nil => simp
 | cons c r ih =>
  unfold brk
  by_cases hc : c = 91
  ·subst hc; simpa using ih
  ·simp [hc]
theorem type_iff (l : Bs) : typeB l = true ↔ ∃ k, k ≤ 8 ∧ ∃ p, Plain p ∧ l = List.replicate k 91 ++ p := by
 unfold typeB
 rw [Bool.and_eq_true, decide_eq_true_eq, plain_iff]
 constructor
 ·rintro ⟨h1, h2⟩
  exact ⟨_, h1, _, h2, brk_split l _ (Nat.le_refl _)⟩
 ·rintro ⟨k, hk, p, hp, rfl⟩
  obtain ⟨c, q, rfl, hc⟩ := hp.head
  rw [brk_rep k (c :: q) (by rintro _ _ e; cases e; exact hc)]
  refine ⟨hk, ?_⟩
  rw [List.drop_left' (by simp)]
  exact hp
theorem plen_hit (p r : Bs) (h : Plain p) : plen (p ++ r) = p.length := by
 rcases h with rfl | rfl | ⟨nm, hn, rfl⟩
 ·simp [plen]
 ·simp [plen]
 ·have hno := (name_no nm hn).1
  have e : Go.Lib.indexByte (76 :: nm ++ [59] ++ r) 59 = ((nm.length + 1 : Nat) : Int) := by
   have := ix_app 59 (76 :: nm) r (by simp [hno])
   simpa using this
  unfold plen
  rw [e]
  have e2 : ((nm.length + 1 : Nat) : Int).toNat = nm.length + 1 := by omega
  rw [e2, if_neg (by simp), if_neg (by omega)]
  have e3 : (76 :: nm ++ [59] ++ r).take (nm.length + 1) = 76 :: nm := by simp
  rw [e3]
  simp [hn]
theorem plen_of (d : Bs) (h : plen d ≠ 0) : ∃ p r, d = p ++ r ∧ Plain p ∧ plen d = p.length := by
 by_cases h1 : d.head? = some 73
 ·cases d with
  | nil => simp at h1
  | cons c q =>
   simp at h1; subst h1
   exact ⟨[73], q, rfl, .inl rfl, plen_hit [73] q (.inl rfl)⟩
 by_cases h2 : d.head? = some 74
 ·cases d with
  | nil => simp at h2
  | cons c q =>
   simp at h2; subst h2
   exact ⟨[74], q, rfl, .inr (.inl rfl), plen_hit [74] q (.inr (.inl rfl))⟩
 unfold plen at h
 rw [if_neg (by simp [h1, h2])] at h
 by_cases h3 : Go.Lib.indexByte d 59 < 0
 ·rw [if_pos h3] at h; exact absurd rfl h
 rw [if_neg h3] at h
 by_cases h4 : ((d.take (Go.Lib.indexByte d 59).toNat).head? == some 76 && nameB ((d.take (Go.Lib.indexByte d 59).toNat).drop 1) false) = true
 ·obtain ⟨r, hd, hl⟩ := ix_split 59 d (by omega)
  rw [Bool.and_eq_true, beq_iff_eq] at h4
  generalize hn : d.take (Go.Lib.indexByte d 59).toNat = nm at hd h4
  cases nm with
  | nil => simp at h4
  | cons c q =>
   simp at h4
   obtain ⟨rfl, hq⟩ := h4
   have hp : Plain (76 :: q ++ [59]) := .inr (.inr ⟨q, hq, rfl⟩)
   have hdd : d = (76 :: q ++ [59]) ++ r := by simpa using hd
   refine ⟨_, r, hdd, hp, ?_⟩
   conv => lhs; rw [hdd]
   exact plen_hit _ _ hp
 ·rw [if_neg h4] at h; exact absurd rfl h
theorem tlen_iff (l : Bs) (n : Nat) : (tlen l ≠ 0 ∧ n = tlen l) ↔ ∃ k, k ≤ 8 ∧ ∃ p r, Plain p ∧ l = List.replicate k 91 ++ p ++ r ∧ n = k + p.length := by
 constructor
 ·rintro ⟨h, rfl⟩
  unfold tlen at h ⊢
  by_cases hp : plen (l.drop (arr8 l)) = 0
  ·rw [if_pos hp] at h; exact absurd rfl h
  rw [if_neg hp]
  obtain ⟨p, r, hd, hpl, hlen⟩ := plen_of _ hp
  have ha : arr8 l ≤ brk l ∧ arr8 l ≤ 8 := by unfold arr8; split <;> omega
  refine ⟨arr8 l, ha.2, p, r, hpl, ?_, by rw [hlen]⟩
  rw [List.append_assoc, ← hd]
  exact brk_split l _ ha.1
 ·rintro ⟨k, hk, p, r, hp, rfl, rfl⟩
  have hb : brk (List.replicate k 91 ++ p ++ r) = k := by
   rw [List.append_assoc]
   apply brk_rep
   obtain ⟨c, q, rfl, hc⟩ := hp.head
   rintro _ _ e
   cases e
   exact hc
  have ha : arr8 (List.replicate k 91 ++ p ++ r) = k := by unfold arr8; rw [hb, if_pos hk]
  have hd : (List.replicate k (91 : UInt8) ++ p ++ r).drop k = p ++ r := by
   rw [List.append_assoc, List.drop_left' (by simp)]
  have ht : tlen (List.replicate k 91 ++ p ++ r) = k + p.length := by
   unfold tlen
   rw [ha, hd, plen_hit p r hp]
   have := hp.pos
   rw [if_neg (by omega)]
  rw [ht]
  have := hp.pos
  exact ⟨by omega, rfl⟩
theorem tlen_le (l : Bs) : tlen l ≤ l.length := by
 by_cases h : tlen l = 0
 ·omega
 obtain ⟨k, hk, p, r, hp, hl, hn⟩ := (tlen_iff l (tlen l)).1 ⟨h, rfl⟩
 rw [hn]
 conv => rhs; rw [hl]
 simp
theorem type_take (l : Bs) (n : Nat) (hn : n ≤ l.length) : typeB (l.take n) = decide (tlen l ≠ 0 ∧ n = tlen l) := by
 rw [Bool.eq_iff_iff, decide_eq_true_eq, type_iff, tlen_iff]
 constructor
 ·rintro ⟨k, hk, p, hp, he⟩
  refine ⟨k, hk, p, l.drop n, hp, ?_, ?_⟩
  ·rw [← he, List.take_append_drop]
  ·have := congrArg List.length he
   simp at this
   omega
 ·rintro ⟨k, hk, p, r, hp, hl, rfl⟩
  refine ⟨k, hk, p, hp, ?_⟩
  rw [hl, List.take_left' (by simp)]
theorem type_whole (l : Bs) : typeB l = decide (tlen l ≠ 0 ∧ l.length = tlen l) := by
 have := type_take l l.length (Nat.le_refl _)
 rwa [List.take_length] at this
def parm (s : Bs) (acc : List Bs) : Option (List Bs × Bs) :=
 if s.head? = some 41 then some (acc, s.drop 1)
 else if h : tlen s = 0 ∨ acc.length = 20 then none
 else parm (s.drop (tlen s)) (acc ++ [s.take (tlen s)])
termination_by s.length
decreasing_by
 have h0 : tlen s ≠ 0 := fun e => h (.inl e)
 have h1 := tlen_le s
 simp only [List.length_drop]
 omega
theorem parm_end {s : Bs} (acc : List Bs) (h : s.head? = some 41) : parm s acc = some (acc, s.drop 1) := by
 rw [parm, if_pos h]
theorem parm_no {s : Bs} {acc : List Bs} (h : s.head? ≠ some 41) (h' : tlen s = 0 ∨ acc.length = 20) : parm s acc = none := by
 rw [parm, if_neg h, dif_pos h']
theorem parm_on {s : Bs} {acc : List Bs} (h : s.head? ≠ some 41) (h1 : tlen s ≠ 0) (h2 : acc.length ≠ 20) : parm s acc = parm (s.drop (tlen s)) (acc ++ [s.take (tlen s)]) := by
 rw [parm, if_neg h, dif_neg (by rintro (e | e) <;> contradiction)]
theorem parm_ind (P : Bs → List Bs → Prop) (Q : List Bs → Bs → Prop)
  (hend : ∀ s acc, s.head? = some 41 → P s acc → Q acc (s.drop 1))
  (hon : ∀ s acc, s.head? ≠ some 41 → tlen s ≠ 0 → acc.length ≠ 20 → P s acc → P (s.drop (tlen s)) (acc ++ [s.take (tlen s)])) :
  ∀ (n : Nat) (s : Bs) (acc : List Bs), s.length ≤ n → P s acc → ∀ ps r, parm s acc = some (ps, r) → Q ps r := by
 intro n
 induction n with
 | zero =>
  intro s acc hn hP ps r h
  have : s = [] := List.length_eq_zero_iff.1 (by omega)
  subst this
  rw [parm_no (by simp) (.inl rfl)] at h
  cases h
 | succ n ih =>
  intro s acc hn hP ps r h
  by_cases h1 : s.head? = some 41
  ·rw [parm_end acc h1] at h
   cases h
   exact hend s acc h1 hP
  by_cases h2 : tlen s = 0 ∨ acc.length = 20
  ·rw [parm_no h1 h2] at h
   cases h
  ·have h3 : tlen s ≠ 0 := fun e => h2 (.inl e)
   have h4 : acc.length ≠ 20 := fun e => h2 (.inr e)
   rw [parm_on h1 h3 h4] at h
   exact ih _ _ (by simp; omega) (hon s acc h1 h3 h4 hP) ps r h
theorem parm_len {s : Bs} {acc ps : List Bs} {r : Bs} (h : parm s acc = some (ps, r)) : r.length ≤ s.length := by
 refine parm_ind (fun t _ => t.length ≤ s.length) (fun _ r => r.length ≤ s.length) ?_ ?_ s.length s acc (Nat.le_refl _) (Nat.le_refl _) ps r h
 ·intro t _ _ ht
  simp
  omega
 ·intro t _ _ _ _ ht
  simp
  omega
def metB (s : Bs) : Option (List Bs × Bs) :=
 if s.head? = some 40 then
  match parm (s.drop 1) [] with
  | none => none
  | some (ps, r) => if r = [86] ∨ typeB r = true then some (ps, r) else none
 else none
theorem metB_head {s : Bs} (h : s.head? ≠ some 40) : metB s = none := by unfold metB; rw [if_neg h]
theorem metB_none {s : Bs} (h : parm (s.drop 1) [] = none) : metB s = none := by
 unfold metB
 split
 ·rw [h]
 ·rfl
theorem metB_bad {s : Bs} {ps : List Bs} {r : Bs} (h : parm (s.drop 1) [] = some (ps, r)) (h1 : r ≠ [86]) (h2 : typeB r = false) : metB s = none := by
 unfold metB
 split
 ·rw [h]; simp [h1, h2]
 ·rfl
theorem metB_some {s : Bs} {ps : List Bs} {r : Bs} (h0 : s.head? = some 40) (h : parm (s.drop 1) [] = some (ps, r)) (h1 : r = [86] ∨ typeB r = true) : metB s = some (ps, r) := by
 unfold metB
 rw [if_pos h0, h]
 simp only
 rw [if_pos h1]
def ofL (l : Bs) : Bs := if l.head? = some 91 then l else 76 :: l ++ [59]
end Go.Proofs.YtgihfcimngogfaaGreat
namespace Go.Proofs.YtgihfcimngogfaaGreat
open Go Go.RowKit
set_option linter.unusedVariables false
abbrev St := Bs × Bool
def takeL (s : St) (n : Int) : Bs := if n < 0 ∨ (s.1.length : Int) < n then [] else s.1.take n.toNat
def takeS (s : St) (n : Int) : St := if n < 0 ∨ (s.1.length : Int) < n then ([], true) else (s.1.drop n.toNat, s.2)
def beB (l : Bs) : Nat := l.foldl (fun x c => x * 256 + c.toNat) 0
def numN (s : St) (n : Int) : Nat := if n < 1 ∨ 8 < n then 0 else beB (takeL s n)
def numS (s : St) (n : Int) : St := if n < 1 ∨ 8 < n then s else takeS s n
theorem takeL_no {s : St} {n : Int} (h : n < 0 ∨ (s.1.length : Int) < n) : takeL s n = [] := by unfold takeL; rw [if_pos h]
theorem takeL_yes {s : St} {n : Int} (h : ¬ (n < 0 ∨ (s.1.length : Int) < n)) : takeL s n = s.1.take n.toNat := by unfold takeL; rw [if_neg h]
theorem takeS_no {s : St} {n : Int} (h : n < 0 ∨ (s.1.length : Int) < n) : takeS s n = ([], true) := by unfold takeS; rw [if_pos h]
theorem takeS_yes {s : St} {n : Int} (h : ¬ (n < 0 ∨ (s.1.length : Int) < n)) : takeS s n = (s.1.drop n.toNat, s.2) := by unfold takeS; rw [if_neg h]
theorem numN_no {s : St} {n : Int} (h : n < 1 ∨ 8 < n) : numN s n = 0 := by unfold numN; rw [if_pos h]
theorem numN_yes {s : St} {n : Int} (h : ¬ (n < 1 ∨ 8 < n)) : numN s n = beB (takeL s n) := by unfold numN; rw [if_neg h]
theorem numS_no {s : St} {n : Int} (h : n < 1 ∨ 8 < n) : numS s n = s := by unfold numS; rw [if_pos h]
theorem numS_yes {s : St} {n : Int} (h : ¬ (n < 1 ∨ 8 < n)) : numS s n = takeS s n := by unfold numS; rw [if_neg h]
theorem beB_nil : beB [] = 0 := rfl
theorem beB_snoc (l : Bs) (c : UInt8) : beB (l ++ [c]) = beB l * 256 + c.toNat := by unfold beB; rw [List.foldl_append]; rfl
theorem beB_lt : ∀ (n : Nat) (l : Bs), l.length = n → beB l < 256 ^ n := by
 intro n
 induction n with
 | zero => intro l h; rw [List.length_eq_zero_iff.1 h]; simp [beB_nil]
 | succ n ih =>
  intro l h
  have hne : l ≠ [] := by rintro rfl; simp at h
  rw [← List.dropLast_concat_getLast hne, beB_snoc]
  have h1 := ih l.dropLast (by simp [h])
  have h2 := (l.getLast hne).toNat_lt
  rw [Nat.pow_succ]
  omega
theorem takeL_len (s : St) (n : Int) : (takeL s n).length = 0 ∨ ((takeL s n).length : Int) = n := by
 by_cases h : n < 0 ∨ (s.1.length : Int) < n
 ·rw [takeL_no h]; exact .inl rfl
 ·rw [takeL_yes h, List.length_take]; omega
theorem pow_mono (a b : Nat) (h : a ≤ b) : 256 ^ a ≤ 256 ^ b := Nat.pow_le_pow_right (by omega) h
theorem numN_lt (s : St) (n k : Nat) (hn : n ≤ k) : numN s n < 256 ^ k := by
 have hp : 0 < 256 ^ k := Nat.pow_pos (by omega)
 by_cases h : (n : Int) < 1 ∨ 8 < (n : Int)
 ·rw [numN_no h]; exact hp
 ·rw [numN_yes h]
  refine Nat.lt_of_lt_of_le (beB_lt _ _ rfl) (pow_mono _ _ ?_)
  have := takeL_len s n
  omega
theorem num1_lt (s : St) : numN s 1 < 256 := numN_lt s 1 1 (Nat.le_refl _)
theorem num2_lt (s : St) : numN s 2 < 65536 := numN_lt s 2 2 (Nat.le_refl _)
structure Ent where
 kind : Nat
 num : Int
 text : Bs
 a : Nat
 b : Nat
 d : Nat
def Ent.zero : Ent := ⟨0, 0, [], 0, 0, 0⟩
structure Con where
 kind : Nat
 num : Int
 text : Bs
 name : Bs
 desc : Bs
def Con.zero : Con := ⟨0, 0, [], [], []⟩
def bodyE (k : Nat) (s : St) : Ent :=
 if k = 1 then ⟨1, 0, takeL (numS s 2) (numN s 2), 0, 0, 0⟩
 else if k = 3 then ⟨3, wrap64 (wrap32 (numN s 4)), [], 0, 0, 0⟩
 else if k = 5 then ⟨5, wrap64 (numN s 8), [], 0, 0, 0⟩
 else if k = 7 ∨ k = 8 then ⟨k, 0, [], numN s 2, 0, 0⟩
 else if k = 9 ∨ k = 10 ∨ k = 11 then ⟨k, 0, [], numN s 2, numN (numS s 2) 2, numN (numS (numS s 2) 2) 2⟩
 else ⟨k, 0, [], 0, 0, 0⟩
def bodyS (k : Nat) (s : St) : St :=
 if k = 1 then takeS (numS s 2) (numN s 2)
 else if k = 3 then numS s 4
 else if k = 5 then numS s 8
 else if k = 7 ∨ k = 8 then numS s 2
 else if k = 9 ∨ k = 10 ∨ k = 11 then numS (numS (numS s 2) 2) 2
 else s
def knownK (k : Nat) : Bool := k == 1 || k == 3 || k == 5 || k == 7 || k == 8 || k == 9 || k == 10 || k == 11
def entX (s : St) : Nat := if (bodyS (numN s 1) (numS s 1)).2 then 11 else if knownK (numN s 1) then 0 else 12
def entE (s : St) : Ent := bodyE (numN s 1) (numS s 1)
def entS (s : St) : St := bodyS (numN s 1) (numS s 1)
def rdEnts : Nat → St → List Ent → Nat × List Ent × St
 | 0, s, acc => (0, acc, s)
 | k + 1, s, acc => if entX s = 0 then rdEnts k (entS s) (acc ++ [entE s]) else (entX s, [], entS s)
theorem rdEnts_on (k : Nat) (s : St) (acc : List Ent) (h : entX s = 0) : rdEnts (k + 1) s acc = rdEnts k (entS s) (acc ++ [entE s]) := by rw [rdEnts, if_pos h]
theorem rdEnts_no (k : Nat) (s : St) (acc : List Ent) (h : entX s ≠ 0) : rdEnts (k + 1) s acc = (entX s, [], entS s) := by rw [rdEnts, if_neg h]
def rdHead (s : St) : Nat × List Ent × St :=
 if (numS s 2).2 then (11, [], numS s 2)
 else if numN s 2 = 0 ∨ 1000 < numN s 2 then (12, [], numS s 2)
 else rdEnts (numN s 2 - 1) (numS s 2) [Ent.zero]
def entAt (l : List Ent) (i k : Nat) : Option Ent := match l[i]? with
 | some x => if x.kind = k then some x else none
 | none => none
def namedB (s : Bs) : Bool := nameB s false || (s.head? == some 91 && typeB s)
def descB (s : Bs) (m : Bool) : Bool := if m then (metB s).isSome else typeB s
def textAt (l : List Ent) (i : Nat) : Option Bs := (entAt l i 1).map (·.text)
def classAt (l : List Ent) (i : Nat) : Option Bs := (entAt l i 7).bind fun x => textAt l x.a
def resText (l : List Ent) (x : Ent) : Nat × Con := match textAt l x.a with
 | none => (12, Con.zero)
 | some t => if x.kind = 7 ∧ namedB t = false then (20, Con.zero) else (0, ⟨x.kind, x.num, t, [], []⟩)
def resMem (l : List Ent) (x : Ent) : Nat × Con := match classAt l x.a, textAt l x.b, textAt l x.d with
 | some c, some n, some t =>
  if nameB c false = false ∨ nameB n (decide (x.kind ≠ 9)) = false then (20, Con.zero)
  else if descB t (decide (x.kind ≠ 9)) = false then (21, Con.zero)
  else (0, ⟨x.kind, x.num, c, n, t⟩)
 | _, _, _ => (12, Con.zero)
def resOne (l : List Ent) (x : Ent) : Nat × Con :=
 if x.kind = 7 ∨ x.kind = 8 then resText l x
 else if x.kind = 9 ∨ x.kind = 10 ∨ x.kind = 11 then resMem l x
 else (0, ⟨x.kind, x.num, x.text, [], []⟩)
def resAll (l : List Ent) : List Ent → List Con → Nat × List Con
 | [], acc => (0, acc)
 | x :: rest, acc => if (resOne l x).1 = 0 then resAll l rest (acc ++ [(resOne l x).2]) else ((resOne l x).1, [])
theorem resAll_nil (l : List Ent) (acc : List Con) : resAll l [] acc = (0, acc) := rfl
theorem resAll_on (l : List Ent) (x : Ent) (rest : List Ent) (acc : List Con) (h : (resOne l x).1 = 0) : resAll l (x :: rest) acc = resAll l rest (acc ++ [(resOne l x).2]) := by rw [resAll, if_pos h]
theorem resAll_no (l : List Ent) (x : Ent) (rest : List Ent) (acc : List Con) (h : (resOne l x).1 ≠ 0) : resAll l (x :: rest) acc = ((resOne l x).1, []) := by rw [resAll, if_neg h]
def poolX (s : St) : Nat := if (rdHead s).1 ≠ 0 then (rdHead s).1 else (resAll (rdHead s).2.1 (rdHead s).2.1 []).1
def poolL (s : St) : List Con := if (rdHead s).1 ≠ 0 then [] else (resAll (rdHead s).2.1 (rdHead s).2.1 []).2
def poolS (s : St) : St := (rdHead s).2.2
end Go.Proofs.YtgihfcimngogfaaGreat
namespace Go.Proofs.YtgihfcimngogfaaGreat
open Go.RowKit Go
set_option linter.unusedVariables false
theorem lhid {p : Prop} (h : p) : Hid p := h
def tx (l : Bs) : ByteArray := ⟨l.toArray⟩
theorem tx_list (l : Bs) : (tx l).data.toList = l := by simp [tx]
theorem tx_size (l : Bs) : (tx l).size = l.length := by
 show (tx l).data.size = _
 simp [tx]
theorem tx_self (s : ByteArray) : tx s.data.toList = s := by unfold tx; simp
theorem tx_nil : tx [] = ⟨#[]⟩ := rfl
structure Only (R : Nat) (w w' : World) : Prop where
 os : w'.os = w.os
 tape : w'.tape = w.tape
 output : w'.output = w.output
 size : w.heap.size ≤ w'.heap.size
 block : ∀ k, k < w.heap.size → k ≠ R → w'.heap[k]? = w.heap[k]?
theorem Only.refl (R : Nat) (w : World) : Only R w w := ⟨rfl, rfl, rfl, Nat.le_refl _, fun _ _ _ => rfl⟩
theorem Only.trans {R : Nat} {a b c : World} (h : Only R a b) (k : Only R b c) : Only R a c :=
 ⟨k.os.trans h.os, k.tape.trans h.tape, k.output.trans h.output, Nat.le_trans h.size k.size, fun i hi hr => (k.block i (Nat.lt_of_lt_of_le hi h.size) hr).trans (h.block i hi hr)⟩
theorem Only.drewN {R : Nat} {a w : World} (h : Only R a w) (n : Nat) : Only R a (w.drewN n) := ⟨h.os, h.tape, h.output, h.size, h.block⟩
theorem Only.drew {R : Nat} {a w : World} (h : Only R a w) : Only R a w.drew := ⟨h.os, h.tape, h.output, h.size, h.block⟩
theorem Only.alloc {R : Nat} {a w : World} (h : Only R a w) (o : Obj) : Only R a (w.alloc o) :=
 h.trans ⟨rfl, rfl, rfl, by simp, fun k hk _ => Below.heap_alloc _ _ _ hk⟩
theorem Only.setCell {R : Nat} {a w : World} (h : Only R a w) {p : Addr} (hp : p.block = R ∨ a.heap.size ≤ p.block) (u : Value) : Only R a (w.setCell p u) :=
 ⟨h.os, h.tape, h.output, by have := h.size; simpa [World.setCell] using this, fun k hk hr => by rw [Below.heap_setCell _ _ _ _ (by omega)]; exact h.block k hk hr⟩
theorem Only.own {R : Nat} {a w : World} (h : Only R a w) (i : Nat) (u : Value) : Only R a (w.setCell ⟨R, i, none⟩ u) := h.setCell (.inl rfl) u
theorem Only.below {R B : Nat} {a w : World} (h : Only R a w) (hB : B ≤ R) (hs : B ≤ a.heap.size) : Below B a w := ⟨h.os, h.tape, h.output, h.size, fun k hk => h.block k (by omega) (by omega)⟩
theorem Below.only {R : Nat} {a w : World} (h : Below a.heap.size a w) : Only R a w := ⟨h.os, h.tape, h.output, h.size, fun k hk _ => h.block k hk⟩
theorem Only.keep {R k : Nat} {a w : World} {o : Obj} (h : Only R a w) (hk : a.heap[k]? = some o) (hr : k ≠ R) : w.heap[k]? = some o := by
 rw [h.block k (Array.getElem?_eq_some_iff.1 hk).1 hr]
 exact hk
theorem heap_set {w : World} {R i : Nat} {c : Array Value} {t : TypeId} {f : Nat × Nat} (h : w.heap[R]? = some (.cells c t f)) (v : Value) : (w.setCell ⟨R, i, none⟩ v).heap[R]? = some (.cells (c.setIfInBounds i v) t f) := by
 simp [World.setCell, Array.getElem?_modify, h]
theorem heap_cell {w : World} {R i : Nat} {c : Array Value} {t : TypeId} {f : Nat × Nat} {v : Value} (h : w.heap[R]? = some (.cells c t f)) (hv : c[i]? = some v) : w.cell? ⟨R, i, none⟩ = some v := by
 simp [World.cell?, h, hv]
theorem heap_thaw {w : World} {R : Nat} {c : Array Value} {t : TypeId} (h : w.heap[R]? = some (.cells c t (0, 0))) (i : Nat) : w.frozen? ⟨R, i, none⟩ = false := by
 simp [World.frozen?, h]
theorem heap_lt {w : World} {R : Nat} {o : Obj} (h : w.heap[R]? = some o) : R < w.heap.size := (Array.getElem?_eq_some_iff.1 h).1
def Rdr (w : World) (R : Nat) (s : St) : Prop := w.heap[R]? = some (.cells #[.string (tx s.1), .bool s.2] 105 (0, 0))
theorem Rdr.c0 {w : World} {R : Nat} {s : St} (h : Rdr w R s) : w.cell? ⟨R, 0, none⟩ = some (.string (tx s.1)) := heap_cell h rfl
theorem Rdr.c1 {w : World} {R : Nat} {s : St} (h : Rdr w R s) : w.cell? ⟨R, 1, none⟩ = some (.bool s.2) := heap_cell h rfl
theorem Rdr.fz {w : World} {R : Nat} {s : St} (h : Rdr w R s) (i : Nat) : w.frozen? ⟨R, i, none⟩ = false := heap_thaw h i
theorem Rdr.lt {w : World} {R : Nat} {s : St} (h : Rdr w R s) : R < w.heap.size := heap_lt h
theorem Rdr.drewN {w : World} {R : Nat} {s : St} (h : Rdr w R s) (n : Nat) : Rdr (w.drewN n) R s := h
theorem Rdr.keep {w w' : World} {R R' : Nat} {s : St} (h : Rdr w R s) (ho : Only R' w w') (hr : R ≠ R') : Rdr w' R s := ho.keep h hr
theorem Rdr.alloc {w : World} {R : Nat} {s : St} (h : Rdr w R s) (o : Obj) : Rdr (w.alloc o) R s := by
 have := Below.heap_alloc w o R h.lt
 unfold Rdr
 rw [this]
 exact h
theorem Rdr.other {w : World} {R : Nat} {s : St} (h : Rdr w R s) {p : Addr} (hp : R ≠ p.block) (v : Value) : Rdr (w.setCell p v) R s := by
 unfold Rdr
 rw [Below.heap_setCell _ _ _ _ hp]
 exact h
theorem Rdr.set0 {w : World} {R : Nat} {s : St} (h : Rdr w R s) (l : Bs) : Rdr (w.setCell ⟨R, 0, none⟩ (.string (tx l))) R (l, s.2) := heap_set h _
theorem Rdr.set1 {w : World} {R : Nat} {s : St} (h : Rdr w R s) (b : Bool) : Rdr (w.setCell ⟨R, 1, none⟩ (.bool b)) R (s.1, b) := heap_set h _
def RdB (w : World) (v : Value) (l : Bs) : Prop :=
 (v = .slice none 0 0 ∧ l = []) ∨ ∃ b o cap, v = .slice (some ⟨b, o, none⟩) l.length cap ∧ l.length ≤ cap ∧ cap ≤ maxLen ∧ ∀ (i : Nat) (c : UInt8), l[i]? = some c → w.cell? ⟨b, o + i, none⟩ = some (.int .u8 (c.toNat : Int))
theorem RdB.keep {w w' : World} {v : Value} {l : Bs} (h : RdB w v l) (hb : ∀ a u, w.cell? a = some u → (∀ x ∈ v.ownBlock, x = a.block) → w'.cell? a = some u) : RdB w' v l := by
 rcases h with h | ⟨b, o, cap, rfl, h1, h2, h3⟩
 ·exact .inl h
 ·refine .inr ⟨b, o, cap, rfl, h1, h2, fun i c hc => hb _ _ (h3 i c hc) ?_⟩
  rintro x hx
  simp [Value.ownBlock] at hx
  exact hx.symm
structure Tl where
 T : TypeId
 r : Array Value
def Tl.bytes : Tl := ⟨92, #[]⟩
theorem app_at (a r : Array Value) (i : Nat) (v : Value) (h : a[i]? = some v) : (a ++ r)[i]? = some v := by
 rw [Array.getElem?_append_left (Array.getElem?_eq_some_iff.1 h).1]
 exact h
theorem app_set (a r : Array Value) (i : Nat) (v : Value) (h : i < a.size) : (a ++ r).setIfInBounds i v = a.setIfInBounds i v ++ r := by
 apply Array.ext_getElem?
 intro j
 by_cases hj : i = j
 ·subst hj
  simp [Array.getElem?_append, h]
 ·rw [Array.getElem?_setIfInBounds_ne hj]
  simp only [Array.getElem?_append, Array.size_setIfInBounds]
  split
  ·rw [Array.getElem?_setIfInBounds_ne hj]
  ·rfl
def Doc (X : Tl) (w : World) (M : Nat) (v : Value) (at_ : Nat) (bad : Bool) : Prop := w.heap[M]? = some (.cells (#[v, .int .i64 at_, .bool bad] ++ X.r) X.T (0, 0))
theorem Doc.c0 {X : Tl} {w : World} {M : Nat} {v : Value} {k : Nat} {b : Bool} (h : Doc X w M v k b) : w.cell? ⟨M, 0, none⟩ = some v := heap_cell h (app_at _ _ _ _ rfl)
theorem Doc.c1 {X : Tl} {w : World} {M : Nat} {v : Value} {k : Nat} {b : Bool} (h : Doc X w M v k b) : w.cell? ⟨M, 1, none⟩ = some (.int .i64 k) := heap_cell h (app_at _ _ _ _ rfl)
theorem Doc.c2 {X : Tl} {w : World} {M : Nat} {v : Value} {k : Nat} {b : Bool} (h : Doc X w M v k b) : w.cell? ⟨M, 2, none⟩ = some (.bool b) := heap_cell h (app_at _ _ _ _ rfl)
theorem Doc.fz {X : Tl} {w : World} {M : Nat} {v : Value} {k : Nat} {b : Bool} (h : Doc X w M v k b) (i : Nat) : w.frozen? ⟨M, i, none⟩ = false := heap_thaw h i
theorem Doc.lt {X : Tl} {w : World} {M : Nat} {v : Value} {k : Nat} {b : Bool} (h : Doc X w M v k b) : M < w.heap.size := heap_lt h
theorem Doc.drewN {X : Tl} {w : World} {M : Nat} {v : Value} {k : Nat} {b : Bool} (h : Doc X w M v k b) (n : Nat) : Doc X (w.drewN n) M v k b := h
theorem Doc.keep {X : Tl} {w w' : World} {M R : Nat} {v : Value} {k : Nat} {b : Bool} (h : Doc X w M v k b) (ho : Only R w w') (hr : M ≠ R) : Doc X w' M v k b := Only.keep ho h hr
theorem Doc.set1 {X : Tl} {w : World} {M : Nat} {v : Value} {k : Nat} {b : Bool} (h : Doc X w M v k b) (n : Nat) : Doc X (w.setCell ⟨M, 1, none⟩ (.int .i64 n)) M v n b := by
 unfold Doc
 rw [heap_set h _, app_set _ _ _ _ (by simp)]
 rfl
theorem Doc.set2 {X : Tl} {w : World} {M : Nat} {v : Value} {k : Nat} {b : Bool} (h : Doc X w M v k b) (c : Bool) : Doc X (w.setCell ⟨M, 2, none⟩ (.bool c)) M v k c := by
 unfold Doc
 rw [heap_set h _, app_set _ _ _ _ (by simp)]
 rfl
end Go.Proofs.YtgihfcimngogfaaGreat
namespace Go.Proofs.YtgihfcimngogfaaGreat
open Go.RowKit Go
set_option linter.unusedVariables false
def putA (c : Array Value) : Nat → List Value → Array Value
 | _, [] => c
 | o, v :: r => putA (c.setIfInBounds o v) (o + 1) r
theorem putA_size : ∀ (vs : List Value) (o : Nat) (c : Array Value), (putA c o vs).size = c.size
 | [], _, _ => rfl
 | v :: r, o, c => by rw [putA, putA_size]; simp
theorem putA_out : ∀ (vs : List Value) (o : Nat) (c : Array Value) (x : Nat), x < o ∨ o + vs.length ≤ x → (putA c o vs)[x]? = c[x]?
 | [], _, _, _, _ => rfl
 | v :: r, o, c, x, h => by
  have hl : (v :: r).length = r.length + 1 := rfl
  rw [putA, putA_out r (o + 1) _ x (by omega), Array.getElem?_setIfInBounds, if_neg (by omega)]
theorem putA_in : ∀ (vs : List Value) (o : Nat) (c : Array Value) (j : Nat) (v : Value), o + vs.length ≤ c.size → vs[j]? = some v → (putA c o vs)[o + j]? = some v
 | [], _, _, _, _, _, h => by simp at h
 | u :: r, o, c, 0, v, hs, h => by
  have hl : (u :: r).length = r.length + 1 := rfl
  simp at h
  subst h
  rw [putA]
  show (putA (c.setIfInBounds o u) (o + 1) r)[o]? = some u
  rw [putA_out r (o + 1) _ o (by omega), Array.getElem?_setIfInBounds, if_pos rfl, if_pos (by omega)]
 | u :: r, o, c, j + 1, v, hs, h => by
  have hl : (u :: r).length = r.length + 1 := rfl
  rw [putA, show o + (j + 1) = o + 1 + j by omega]
  exact putA_in r (o + 1) _ j v (by simp; omega) (by simpa using h)
theorem heap_setCells {b : Nat} {t : TypeId} {f : Nat × Nat} : ∀ (vs : List Value) (o : Nat) (w : World) (c : Array Value), w.heap[b]? = some (.cells c t f) → (w.setCells b o vs).heap[b]? = some (.cells (putA c o vs) t f)
 | [], _, _, _, h => h
 | v :: r, o, w, c, h => by
  rw [World.setCells, putA]
  exact heap_setCells r (o + 1) _ _ (heap_set h v)
def RowsAt (w : World) (g T k : Nat) (rows : List (List Value)) : Prop :=
 ∃ c : Array Value, w.heap[g]? = some (.cells c T (0, 0)) ∧ c.size = rows.length * k ∧ ∀ (i : Nat) r, rows[i]? = some r → r.length = k ∧ ∀ (j : Nat) v, r[j]? = some v → c[i * k + j]? = some v
theorem RowsAt.lt {w : World} {g T k : Nat} {rows : List (List Value)} (h : RowsAt w g T k rows) : g < w.heap.size := by
 obtain ⟨c, h1, _⟩ := h
 exact heap_lt h1
theorem RowsAt.cell {w : World} {g T k : Nat} {rows : List (List Value)} (h : RowsAt w g T k rows) {i : Nat} {r : List Value} (hr : rows[i]? = some r) {j : Nat} {v : Value} (hv : r[j]? = some v) : w.cell? ⟨g, i * k + j, none⟩ = some v := by
 obtain ⟨c, h1, _, h3⟩ := h
 exact heap_cell h1 ((h3 i r hr).2 j v hv)
theorem RowsAt.fz {w : World} {g T k : Nat} {rows : List (List Value)} (h : RowsAt w g T k rows) (i : Nat) : w.frozen? ⟨g, i, none⟩ = false := by
 obtain ⟨c, h1, _⟩ := h
 exact heap_thaw h1 i
theorem RowsAt.of_block {w w' : World} {g T k : Nat} {rows : List (List Value)} (h : RowsAt w g T k rows) (e : w'.heap[g]? = w.heap[g]?) : RowsAt w' g T k rows := by
 obtain ⟨c, h1, h2⟩ := h
 exact ⟨c, e.trans h1, h2⟩
theorem RowsAt.keep {w w' : World} {g T k R : Nat} {rows : List (List Value)} (h : RowsAt w g T k rows) (ho : Only R w w') (hr : g ≠ R) : RowsAt w' g T k rows := h.of_block (ho.block g h.lt hr)
theorem RowsAt.other {w : World} {g T k : Nat} {rows : List (List Value)} (h : RowsAt w g T k rows) {p : Addr} (hp : g ≠ p.block) (v : Value) : RowsAt (w.setCell p v) g T k rows := h.of_block (Below.heap_setCell _ _ _ _ hp)
theorem RowsAt.alloc {w : World} {g T k : Nat} {rows : List (List Value)} (h : RowsAt w g T k rows) (o : Obj) : RowsAt (w.alloc o) g T k rows := h.of_block (Below.heap_alloc _ _ _ h.lt)
theorem RowsAt.drewN {w : World} {g T k : Nat} {rows : List (List Value)} (h : RowsAt w g T k rows) (n : Nat) : RowsAt (w.drewN n) g T k rows := h
theorem RowsAt.put {w : World} {g T k : Nat} {rows : List (List Value)} (h : RowsAt w g T k rows) (i : Nat) (hi : i < rows.length) (r : List Value) (hr : r.length = k) : RowsAt (w.setCells g (i * k) r) g T k (rows.set i r) := by
 obtain ⟨c, h1, h2, h3⟩ := h
 have hk : i * k + k ≤ rows.length * k := by
  have := Nat.mul_le_mul_right k (Nat.succ_le_of_lt hi)
  rwa [Nat.succ_mul] at this
 refine ⟨_, heap_setCells r (i * k) w c h1, by rw [putA_size, List.length_set]; exact h2, fun i' r' hr' => ?_⟩
 rw [List.getElem?_set] at hr'
 by_cases e : i = i'
 ·subst e
  rw [if_pos rfl, if_pos hi] at hr'
  simp at hr'
  subst hr'
  exact ⟨hr, fun j v hv => putA_in _ _ _ _ _ (by omega) hv⟩
 ·rw [if_neg e] at hr'
  obtain ⟨hl, hc⟩ := h3 i' r' hr'
  refine ⟨hl, fun j v hv => ?_⟩
  have hj : j < k := by
   have := (List.getElem?_eq_some_iff.1 hv).1
   omega
  rw [putA_out _ _ _ _ ?_]
  ·exact hc j v hv
  ·rw [hr]
   rcases Nat.lt_or_ge i' i with hlt | hge
   ·left
    have := Nat.mul_le_mul_right k (Nat.succ_le_of_lt hlt)
    rw [Nat.succ_mul] at this
    omega
   ·right
    have := Nat.mul_le_mul_right k (Nat.succ_le_of_lt (Nat.lt_of_le_of_ne hge e))
    rw [Nat.succ_mul] at this
    omega
theorem made_at (z : Array Value) (n x : Nat) (v : Value) (hx : x < n) (hz : z[x % z.size]? = some v) : (madeCells z n)[x]? = some v := by
 unfold madeCells
 rw [Array.getElem?_map, Array.getElem?_range, if_pos hx]
 simp only [Option.map_some]
 obtain ⟨h1, h2⟩ := Array.getElem?_eq_some_iff.1 hz
 rw [getElem!_pos z _ h1, h2]
theorem RowsAt.made (w : World) (T k n : Nat) (z : Array Value) (r : List Value) (hz : z = r.toArray) (hr : r.length = k) (hk : 0 < k) : RowsAt (w.alloc (.cells (madeCells z (n * k)) T)) w.heap.size T k (List.replicate n r) := by
 subst hz
 refine ⟨_, heap_alloc_new w _, by rw [size_madeCells]; simp, fun i r' hr' => ?_⟩
 rw [List.getElem?_replicate] at hr'
 by_cases hi : i < n
 ·rw [if_pos hi] at hr'
  simp at hr'
  subst hr'
  refine ⟨hr, fun j v hv => ?_⟩
  have hj : j < k := by
   have := (List.getElem?_eq_some_iff.1 hv).1
   omega
  apply made_at
  ·have := Nat.mul_le_mul_right k (Nat.succ_le_of_lt hi)
   rw [Nat.succ_mul] at this
   omega
  ·rw [show r.toArray.size = k by simpa using hr, Nat.mul_comm, Nat.mul_add_mod, Nat.mod_eq_of_lt hj]
   simpa using hv
 ·rw [if_neg hi] at hr'
  cases hr'
def conV (x : Con) : List Value := [.int .i64 x.kind, .int .i64 x.num, .string (tx x.text), .string (tx x.name), .string (tx x.desc)]
theorem con_at {w : World} {g T : Nat} {l : List Con} (h : RowsAt w g T 5 (l.map conV)) {i : Nat} {x : Con} (hx : l[i]? = some x) :
  w.cell? ⟨g, i * 5, none⟩ = some (.int .i64 x.kind) ∧ w.cell? ⟨g, i * 5 + 1, none⟩ = some (.int .i64 x.num) ∧ w.cell? ⟨g, i * 5 + 2, none⟩ = some (.string (tx x.text)) ∧ w.cell? ⟨g, i * 5 + 3, none⟩ = some (.string (tx x.name)) ∧ w.cell? ⟨g, i * 5 + 4, none⟩ = some (.string (tx x.desc)) := by
 have hr : (l.map conV)[i]? = some (conV x) := by rw [List.getElem?_map, hx]; rfl
 exact ⟨h.cell hr (j := 0) rfl, h.cell hr (j := 1) rfl, h.cell hr (j := 2) rfl, h.cell hr (j := 3) rfl, h.cell hr (j := 4) rfl⟩
end Go.Proofs.YtgihfcimngogfaaGreat
