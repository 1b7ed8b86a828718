/- Plain words on lists of bytes for package desc: names, types, the first type of a text, the parameters of a method. No program in this text. -/
import Derived.Lib.Bytealg
namespace Go.Proofs.Ytifgkpfieapdjaa
set_option linter.unusedVariables false

abbrev Bs := List UInt8
def inN (c : UInt8) : Bool := (97 ≤ c && c ≤ 122) || (65 ≤ c && c ≤ 90) || (48 ≤ c && c ≤ 57) || c == 95 || c == 36 || c == 47
def inM (c : UInt8) : Bool := c == 60 || c == 62
def okc (m : Bool) (c : UInt8) : Bool := inN c || (m && inM c)
def nameB (l : Bs) (m : Bool) : Bool := decide (1 ≤ l.length) && decide (l.length ≤ 60) && l.all (okc m)
def brk : Bs → Nat
  | [] => 0
  | c :: l => if c == 91 then brk l + 1 else 0
def plainB (l : Bs) : Bool := l == [73] || l == [74] || (decide (2 < l.length) && l.head? == some 76 && l.getLast? == some 59 && nameB ((l.drop 1).take (l.length - 2)) false)
def typeB (l : Bs) : Bool := decide (brk l ≤ 8) && plainB (l.drop (brk l))
def arr8 (l : Bs) : Nat := if brk l ≤ 8 then brk l else 8
def plen (l : Bs) : Nat :=
  if l.head? == some 73 || l.head? == some 74 then 1
  else if Go.Lib.indexByte l 59 < 0 then 0
  else if (l.take (Go.Lib.indexByte l 59).toNat).head? == some 76 && nameB ((l.take (Go.Lib.indexByte l 59).toNat).drop 1) false then (Go.Lib.indexByte l 59).toNat + 1 else 0
def tlen (l : Bs) : Nat := if plen (l.drop (arr8 l)) = 0 then 0 else arr8 l + plen (l.drop (arr8 l))

theorem ix_nil (c : UInt8) : Go.Lib.indexByte [] c = -1 := rfl
theorem ix_hit (c : UInt8) (l : Bs) : Go.Lib.indexByte (c :: l) c = 0 := by unfold Go.Lib.indexByte; simp
theorem ix_app (c : UInt8) : ∀ (l r : Bs), c ∉ l → Go.Lib.indexByte (l ++ c :: r) c = l.length
  | [], r, _ => by simpa using ix_hit c r
  | b :: l, r, h => by
    have hb : b ≠ c := fun e => h (by simp [e])
    have ih := ix_app c l r (fun h' => h (by simp [h']))
    rw [List.cons_append]
    unfold Go.Lib.indexByte
    rw [ih]
    have e1 : (b == c) = false := by simpa using hb
    have e2 : ((l.length : Int) == -1) = false := by rw [beq_eq_false_iff_ne]; omega
    simp [e1, e2]
theorem ix_ge (l : Bs) (c : UInt8) : -1 ≤ Go.Lib.indexByte l c := Go.Lib.indexByte_ge l c
theorem ix_split (c : UInt8) : ∀ (l : Bs), 0 ≤ Go.Lib.indexByte l c → ∃ r, l = l.take (Go.Lib.indexByte l c).toNat ++ c :: r ∧ (Go.Lib.indexByte l c).toNat < l.length
  | [], h => by simp [ix_nil] at h
  | b :: l, h => by
    by_cases hb : b = c
    · subst hb
      exact ⟨l, by rw [ix_hit]; simp, by rw [ix_hit]; simp⟩
    · have e1 : (b == c) = false := by simpa using hb
      have e : Go.Lib.indexByte (b :: l) c = if Go.Lib.indexByte l c == -1 then -1 else Go.Lib.indexByte l c + 1 := by
        rw [show Go.Lib.indexByte (b :: l) c = if b == c then 0 else if Go.Lib.indexByte l c == -1 then -1 else Go.Lib.indexByte l c + 1 from rfl, e1]
        simp
      have hge := ix_ge l c
      by_cases hm : Go.Lib.indexByte l c = -1
      · rw [e, hm] at h; simp at h
      · have e2 : (Go.Lib.indexByte l c == -1) = false := by simpa using hm
        rw [e2] at e
        have e3 : Go.Lib.indexByte (b :: l) c = Go.Lib.indexByte l c + 1 := by simpa using e
        obtain ⟨r, h1, h2⟩ := ix_split c l (by omega)
        have e4 : (Go.Lib.indexByte (b :: l) c).toNat = (Go.Lib.indexByte l c).toNat + 1 := by omega
        refine ⟨r, ?_, by rw [e4]; simpa using h2⟩
        rw [e4, List.take_succ_cons, List.cons_append, ← h1]

def Plain (p : Bs) : Prop := p = [73] ∨ p = [74] ∨ ∃ nm, nameB nm false = true ∧ p = 76 :: nm ++ [59]

theorem name_no (nm : Bs) (h : nameB nm false = true) : (59 : UInt8) ∉ nm ∧ (91 : UInt8) ∉ nm := by
  unfold nameB at h
  simp only [Bool.and_eq_true, List.all_eq_true] at h
  constructor <;> (intro hm; have := h.2 _ hm; revert this; decide)
theorem name_len (nm : Bs) (m : Bool) (h : nameB nm m = true) : 1 ≤ nm.length ∧ nm.length ≤ 60 := by
  unfold nameB at h
  simp only [Bool.and_eq_true, decide_eq_true_eq] at h
  exact h.1
theorem Plain.head {p : Bs} (h : Plain p) : ∃ c q, p = c :: q ∧ c ≠ 91 := by
  rcases h with rfl | rfl | ⟨nm, _, rfl⟩
  · exact ⟨_, _, rfl, by decide⟩
  · exact ⟨_, _, rfl, by decide⟩
  · exact ⟨_, _, rfl, by decide⟩
theorem Plain.pos {p : Bs} (h : Plain p) : 0 < p.length := by
  obtain ⟨c, q, rfl, _⟩ := h.head
  simp
theorem plain_iff (l : Bs) : plainB l = true ↔ Plain l := by
  unfold plainB Plain
  simp only [Bool.or_eq_true, Bool.and_eq_true, beq_iff_eq, decide_eq_true_eq]
  constructor
  · rintro ((h | h) | ⟨⟨⟨h1, h2⟩, h3⟩, h4⟩)
    · exact .inl h
    · exact .inr (.inl h)
    · refine .inr (.inr ⟨_, h4, ?_⟩)
      cases l with
      | nil => simp at h2
      | cons c q =>
        simp only [List.head?_cons, Option.some.injEq] at h2
        subst h2
        have hq : q ≠ [] := by rintro rfl; simp at h1
        have h5 : q.getLast? = some 59 := by rw [List.getLast?_cons] at h3; rw [List.getLast?_eq_some_getLast hq] at h3 ⊢; simpa using h3
        have h6 : q.getLast hq = 59 := by rw [List.getLast?_eq_some_getLast hq] at h5; simpa using h5
        have h7 : q = q.take (q.length - 1) ++ [59] := by
          rw [← List.dropLast_eq_take, ← h6, List.dropLast_concat_getLast]
        simp only [List.drop_succ_cons, List.drop_zero, List.length_cons, List.cons_append]
        rw [show q.length + 1 - 2 = q.length - 1 by omega, ← h7]
  · rintro (h | h | ⟨nm, h1, rfl⟩)
    · exact .inl (.inl h)
    · exact .inl (.inr h)
    · have hl := name_len nm _ h1
      refine .inr ⟨⟨⟨by simp; omega, by simp⟩, ?_⟩, ?_⟩
      · rw [List.getLast?_append]; simp
      · simpa using h1

theorem brk_rep (k : Nat) (q : Bs) (h : ∀ c r, q = c :: r → c ≠ 91) : brk (List.replicate k 91 ++ q) = k := by
  induction k with
  | zero =>
    cases q with
    | nil => rfl
    | cons c r =>
      have := h c r rfl
      simp [brk, this]
  | succ k ih => simp [List.replicate_succ, brk, ih]
theorem brk_split (l : Bs) : ∀ k, k ≤ brk l → l = List.replicate k 91 ++ l.drop k := by
  induction l with
  | nil => intro k hk; simp [brk] at hk; subst hk; rfl
  | cons c r ih =>
    intro k hk
    cases k with
    | zero => simp
    | succ k =>
      by_cases hc : c = 91
      · subst hc
        simp [brk] at hk
        rw [List.replicate_succ, List.cons_append, List.drop_succ_cons, ← ih k hk]
      · simp [brk, hc] at hk
theorem brk_le (l : Bs) : brk l ≤ l.length := by
  induction l with
  | nil => simp [brk]
  | cons c r ih =>
    unfold brk
    split
    · simpa using ih
    · simp
theorem brk_at (l : Bs) (k : Nat) (h : k < brk l) : l[k]? = some 91 := by
  have := brk_split l (k + 1) h
  rw [this, List.getElem?_append_left (by simp)]
  simp
theorem brk_stop (l : Bs) : l[brk l]? ≠ some 91 := by
  induction l with
  | nil => simp
  | cons c r ih =>
    unfold brk
    by_cases hc : c = 91
    · subst hc; simpa using ih
    · simp [hc]
theorem brk_end (l : Bs) : ∀ c r, l.drop (brk l) = c :: r → c ≠ 91 := by
  intro c r h e
  subst e
  have : l[brk l]? = some 91 := by
    have := congrArg (fun q : Bs => q[0]?) h
    simpa using this
  exact brk_stop l this

theorem type_iff (l : Bs) : typeB l = true ↔ ∃ k, k ≤ 8 ∧ ∃ p, Plain p ∧ l = List.replicate k 91 ++ p := by
  unfold typeB
  rw [Bool.and_eq_true, decide_eq_true_eq, plain_iff]
  constructor
  · rintro ⟨h1, h2⟩
    exact ⟨_, h1, _, h2, brk_split l _ (Nat.le_refl _)⟩
  · rintro ⟨k, hk, p, hp, rfl⟩
    obtain ⟨c, q, rfl, hc⟩ := hp.head
    rw [brk_rep k (c :: q) (by rintro _ _ e; cases e; exact hc)]
    refine ⟨hk, ?_⟩
    rw [List.drop_left' (by simp)]
    exact hp

theorem plen_hit (p r : Bs) (h : Plain p) : plen (p ++ r) = p.length := by
  rcases h with rfl | rfl | ⟨nm, hn, rfl⟩
  · simp [plen]
  · simp [plen]
  · have hno := (name_no nm hn).1
    have e : Go.Lib.indexByte (76 :: nm ++ [59] ++ r) 59 = ((nm.length + 1 : Nat) : Int) := by
      have := ix_app 59 (76 :: nm) r (by simp [hno])
      simpa using this
    unfold plen
    rw [e]
    have e2 : ((nm.length + 1 : Nat) : Int).toNat = nm.length + 1 := by omega
    rw [e2, if_neg (by simp), if_neg (by omega)]
    have e3 : (76 :: nm ++ [59] ++ r).take (nm.length + 1) = 76 :: nm := by simp
    rw [e3]
    simp [hn]
theorem plen_of (d : Bs) (h : plen d ≠ 0) : ∃ p r, d = p ++ r ∧ Plain p ∧ plen d = p.length := by
  by_cases h1 : d.head? = some 73
  · cases d with
    | nil => simp at h1
    | cons c q =>
      simp at h1; subst h1
      exact ⟨[73], q, rfl, .inl rfl, plen_hit [73] q (.inl rfl)⟩
  by_cases h2 : d.head? = some 74
  · cases d with
    | nil => simp at h2
    | cons c q =>
      simp at h2; subst h2
      exact ⟨[74], q, rfl, .inr (.inl rfl), plen_hit [74] q (.inr (.inl rfl))⟩
  unfold plen at h
  rw [if_neg (by simp [h1, h2])] at h
  by_cases h3 : Go.Lib.indexByte d 59 < 0
  · rw [if_pos h3] at h; exact absurd rfl h
  rw [if_neg h3] at h
  by_cases h4 : ((d.take (Go.Lib.indexByte d 59).toNat).head? == some 76 && nameB ((d.take (Go.Lib.indexByte d 59).toNat).drop 1) false) = true
  · obtain ⟨r, hd, hl⟩ := ix_split 59 d (by omega)
    rw [Bool.and_eq_true, beq_iff_eq] at h4
    generalize hn : d.take (Go.Lib.indexByte d 59).toNat = nm at hd h4
    cases nm with
    | nil => simp at h4
    | cons c q =>
      simp at h4
      obtain ⟨rfl, hq⟩ := h4
      have hp : Plain (76 :: q ++ [59]) := .inr (.inr ⟨q, hq, rfl⟩)
      have hdd : d = (76 :: q ++ [59]) ++ r := by simpa using hd
      refine ⟨_, r, hdd, hp, ?_⟩
      conv => lhs; rw [hdd]
      exact plen_hit _ _ hp
  · rw [if_neg h4] at h; exact absurd rfl h

theorem tlen_iff (l : Bs) (n : Nat) : (tlen l ≠ 0 ∧ n = tlen l) ↔ ∃ k, k ≤ 8 ∧ ∃ p r, Plain p ∧ l = List.replicate k 91 ++ p ++ r ∧ n = k + p.length := by
  constructor
  · rintro ⟨h, rfl⟩
    unfold tlen at h ⊢
    by_cases hp : plen (l.drop (arr8 l)) = 0
    · rw [if_pos hp] at h; exact absurd rfl h
    rw [if_neg hp]
    obtain ⟨p, r, hd, hpl, hlen⟩ := plen_of _ hp
    have ha : arr8 l ≤ brk l ∧ arr8 l ≤ 8 := by unfold arr8; split <;> omega
    refine ⟨arr8 l, ha.2, p, r, hpl, ?_, by rw [hlen]⟩
    rw [List.append_assoc, ← hd]
    exact brk_split l _ ha.1
  · rintro ⟨k, hk, p, r, hp, rfl, rfl⟩
    have hb : brk (List.replicate k 91 ++ p ++ r) = k := by
      rw [List.append_assoc]
      apply brk_rep
      obtain ⟨c, q, rfl, hc⟩ := hp.head
      rintro _ _ e
      cases e
      exact hc
    have ha : arr8 (List.replicate k 91 ++ p ++ r) = k := by unfold arr8; rw [hb, if_pos hk]
    have hd : (List.replicate k (91 : UInt8) ++ p ++ r).drop k = p ++ r := by
      rw [List.append_assoc, List.drop_left' (by simp)]
    have ht : tlen (List.replicate k 91 ++ p ++ r) = k + p.length := by
      unfold tlen
      rw [ha, hd, plen_hit p r hp]
      have := hp.pos
      rw [if_neg (by omega)]
    rw [ht]
    have := hp.pos
    exact ⟨by omega, rfl⟩

theorem tlen_le (l : Bs) : tlen l ≤ l.length := by
  by_cases h : tlen l = 0
  · omega
  obtain ⟨k, hk, p, r, hp, hl, hn⟩ := (tlen_iff l (tlen l)).1 ⟨h, rfl⟩
  rw [hn]
  conv => rhs; rw [hl]
  simp
/-- THE SHORTEST TYPE: a piece from the left is a type just at tlen. -/
theorem type_take (l : Bs) (n : Nat) (hn : n ≤ l.length) : typeB (l.take n) = decide (tlen l ≠ 0 ∧ n = tlen l) := by
  rw [Bool.eq_iff_iff, decide_eq_true_eq, type_iff, tlen_iff]
  constructor
  · rintro ⟨k, hk, p, hp, he⟩
    refine ⟨k, hk, p, l.drop n, hp, ?_, ?_⟩
    · rw [← he, List.take_append_drop]
    · have := congrArg List.length he
      simp at this
      omega
  · rintro ⟨k, hk, p, r, hp, hl, rfl⟩
    refine ⟨k, hk, p, hp, ?_⟩
    rw [hl, List.take_left' (by simp)]
theorem type_whole (l : Bs) : typeB l = decide (tlen l ≠ 0 ∧ l.length = tlen l) := by
  have := type_take l l.length (Nat.le_refl _)
  rwa [List.take_length] at this

/-- The parameters: what stands ahead of the first ) that begins no type, and what stands behind it. -/
def parm (s : Bs) (acc : List Bs) : Option (List Bs × Bs) :=
  if s.head? = some 41 then some (acc, s.drop 1)
  else if h : tlen s = 0 ∨ acc.length = 20 then none
  else parm (s.drop (tlen s)) (acc ++ [s.take (tlen s)])
termination_by s.length
decreasing_by
  have h0 : tlen s ≠ 0 := fun e => h (.inl e)
  have h1 := tlen_le s
  simp only [List.length_drop]
  omega
theorem parm_end {s : Bs} (acc : List Bs) (h : s.head? = some 41) : parm s acc = some (acc, s.drop 1) := by
  rw [parm, if_pos h]
theorem parm_no {s : Bs} {acc : List Bs} (h : s.head? ≠ some 41) (h' : tlen s = 0 ∨ acc.length = 20) : parm s acc = none := by
  rw [parm, if_neg h, dif_pos h']
theorem parm_on {s : Bs} {acc : List Bs} (h : s.head? ≠ some 41) (h1 : tlen s ≠ 0) (h2 : acc.length ≠ 20) : parm s acc = parm (s.drop (tlen s)) (acc ++ [s.take (tlen s)]) := by
  rw [parm, if_neg h, dif_neg (by rintro (e | e) <;> contradiction)]
/-- Whatever parm takes off, what is left is an end of the text: a rule that holds step by step holds at the end. -/
theorem parm_ind (P : Bs → List Bs → Prop) (Q : List Bs → Bs → Prop)
    (hend : ∀ s acc, s.head? = some 41 → P s acc → Q acc (s.drop 1))
    (hon : ∀ s acc, s.head? ≠ some 41 → tlen s ≠ 0 → acc.length ≠ 20 → P s acc → P (s.drop (tlen s)) (acc ++ [s.take (tlen s)])) :
    ∀ (n : Nat) (s : Bs) (acc : List Bs), s.length ≤ n → P s acc → ∀ ps r, parm s acc = some (ps, r) → Q ps r := by
  intro n
  induction n with
  | zero =>
    intro s acc hn hP ps r h
    have : s = [] := List.length_eq_zero_iff.1 (by omega)
    subst this
    rw [parm_no (by simp) (.inl rfl)] at h
    cases h
  | succ n ih =>
    intro s acc hn hP ps r h
    by_cases h1 : s.head? = some 41
    · rw [parm_end acc h1] at h
      cases h
      exact hend s acc h1 hP
    by_cases h2 : tlen s = 0 ∨ acc.length = 20
    · rw [parm_no h1 h2] at h
      cases h
    · have h3 : tlen s ≠ 0 := fun e => h2 (.inl e)
      have h4 : acc.length ≠ 20 := fun e => h2 (.inr e)
      rw [parm_on h1 h3 h4] at h
      exact ih _ _ (by simp; omega) (hon s acc h1 h3 h4 hP) ps r h
theorem parm_len {s : Bs} {acc ps : List Bs} {r : Bs} (h : parm s acc = some (ps, r)) : r.length ≤ s.length := by
  refine parm_ind (fun t _ => t.length ≤ s.length) (fun _ r => r.length ≤ s.length) ?_ ?_ s.length s acc (Nat.le_refl _) (Nat.le_refl _) ps r h
  · intro t _ _ ht
    simp
    omega
  · intro t _ _ _ _ ht
    simp
    omega
/-- A method's descriptor: its parts. -/
def metB (s : Bs) : Option (List Bs × Bs) :=
  if s.head? = some 40 then
    match parm (s.drop 1) [] with
    | none => none
    | some (ps, r) => if r = [86] ∨ typeB r = true then some (ps, r) else none
  else none
theorem metB_head {s : Bs} (h : s.head? ≠ some 40) : metB s = none := by unfold metB; rw [if_neg h]
theorem metB_none {s : Bs} (h : parm (s.drop 1) [] = none) : metB s = none := by
  unfold metB
  split
  · rw [h]
  · rfl
theorem metB_bad {s : Bs} {ps : List Bs} {r : Bs} (h : parm (s.drop 1) [] = some (ps, r)) (h1 : r ≠ [86]) (h2 : typeB r = false) : metB s = none := by
  unfold metB
  split
  · rw [h]; simp [h1, h2]
  · rfl
theorem metB_some {s : Bs} {ps : List Bs} {r : Bs} (h0 : s.head? = some 40) (h : parm (s.drop 1) [] = some (ps, r)) (h1 : r = [86] ∨ typeB r = true) : metB s = some (ps, r) := by
  unfold metB
  rw [if_pos h0, h]
  simp only
  rw [if_pos h1]
/-- A class's type, an array's own. -/
def ofL (l : Bs) : Bs := if l.head? = some 91 then l else 76 :: l ++ [59]
end Go.Proofs.Ytifgkpfieapdjaa
