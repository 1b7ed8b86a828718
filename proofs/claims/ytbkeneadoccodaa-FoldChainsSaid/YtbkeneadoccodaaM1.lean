/- Texts of this claim, joined: CDescMath, CInName, CDescName. -/
import Derived.Lib.Bytealg
import Derived.Test.YtbkeneadoccodaaProg
import Derived.WalkKit
import Derived.ProofKit
import Derived.OpenShut
import Derived.Lib.Hide
/- Plain words on lists of bytes for package desc: names, types, the first type of a text, the parameters of a method. No program in this text. -/
namespace Go.Proofs.Ytbkeneadoccodaa
set_option linter.unusedVariables false
abbrev Bs := List UInt8
def inN (c : UInt8) : Bool := (97 ≤ c && c ≤ 122) || (65 ≤ c && c ≤ 90) || (48 ≤ c && c ≤ 57) || c == 95 || c == 36 || c == 47
def inM (c : UInt8) : Bool := c == 60 || c == 62
def okc (m : Bool) (c : UInt8) : Bool := inN c || (m && inM c)
def nameB (l : Bs) (m : Bool) : Bool := decide (1 ≤ l.length) && decide (l.length ≤ 60) && l.all (okc m)
def brk : Bs → Nat
 | [] => 0
 | c :: l => if c == 91 then brk l + 1 else 0
def plainB (l : Bs) : Bool := l == [73] || l == [74] || (decide (2 < l.length) && l.head? == some 76 && l.getLast? == some 59 && nameB ((l.drop 1).take (l.length - 2)) false)
def typeB (l : Bs) : Bool := decide (brk l ≤ 8) && plainB (l.drop (brk l))
def arr8 (l : Bs) : Nat := if brk l ≤ 8 then brk l else 8
def plen (l : Bs) : Nat :=
 if l.head? == some 73 || l.head? == some 74 then 1
 else if Go.Lib.indexByte l 59 < 0 then 0
 else if (l.take (Go.Lib.indexByte l 59).toNat).head? == some 76 && nameB ((l.take (Go.Lib.indexByte l 59).toNat).drop 1) false then (Go.Lib.indexByte l 59).toNat + 1 else 0
def tlen (l : Bs) : Nat := if plen (l.drop (arr8 l)) = 0 then 0 else arr8 l + plen (l.drop (arr8 l))
theorem ix_nil (c : UInt8) : Go.Lib.indexByte [] c = -1 := rfl
theorem ix_hit (c : UInt8) (l : Bs) : Go.Lib.indexByte (c :: l) c = 0 := by unfold Go.Lib.indexByte; simp
theorem ix_app (c : UInt8) : ∀ (l r : Bs), c ∉ l → Go.Lib.indexByte (l ++ c :: r) c = l.length
 | [], r, _ => by simpa using ix_hit c r
 | b :: l, r, h => by
  have hb : b ≠ c := fun e => h (by simp [e])
  have ih := ix_app c l r (fun h' => h (by simp [h']))
  rw [List.cons_append]
  unfold Go.Lib.indexByte
  rw [ih]
  have e1 : (b == c) = false := by simpa using hb
  have e2 : ((l.length : Int) == -1) = false := by rw [beq_eq_false_iff_ne]; omega
  simp [e1, e2]
theorem ix_ge (l : Bs) (c : UInt8) : -1 ≤ Go.Lib.indexByte l c := Go.Lib.indexByte_ge l c
theorem ix_split (c : UInt8) : ∀ (l : Bs), 0 ≤ Go.Lib.indexByte l c → ∃ r, l = l.take (Go.Lib.indexByte l c).toNat ++ c :: r ∧ (Go.Lib.indexByte l c).toNat < l.length
 | [], h => by simp [ix_nil] at h
 | b :: l, h => by
  by_cases hb : b = c
  ·subst hb
   exact ⟨l, by rw [ix_hit]; simp, by rw [ix_hit]; simp⟩
  ·have e1 : (b == c) = false := by simpa using hb
   have e : Go.Lib.indexByte (b :: l) c = if Go.Lib.indexByte l c == -1 then -1 else Go.Lib.indexByte l c + 1 := by
    rw [show Go.Lib.indexByte (b :: l) c = if b == c then 0 else if Go.Lib.indexByte l c == -1 then -1 else Go.Lib.indexByte l c + 1 from rfl, e1]
    simp
   have hge := ix_ge l c
   by_cases hm : Go.Lib.indexByte l c = -1
   ·rw [e, hm] at h; simp at h
   ·have e2 : (Go.Lib.indexByte l c == -1) = false := by simpa using hm
    rw [e2] at e
    have e3 : Go.Lib.indexByte (b :: l) c = Go.Lib.indexByte l c + 1 := by simpa using e
    obtain ⟨r, h1, h2⟩ := ix_split c l (by omega)
    have e4 : (Go.Lib.indexByte (b :: l) c).toNat = (Go.Lib.indexByte l c).toNat + 1 := by omega
    refine ⟨r, ?_, by rw [e4]; simpa using h2⟩
    rw [e4, List.take_succ_cons, List.cons_append, ← h1]
def Plain (p : Bs) : Prop := p = [73] ∨ p = [74] ∨ ∃ nm, nameB nm false = true ∧ p = 76 :: nm ++ [59]
theorem name_no (nm : Bs) (h : nameB nm false = true) : (59 : UInt8) ∉ nm ∧ (91 : UInt8) ∉ nm := by
 unfold nameB at h
 simp only [Bool.and_eq_true, List.all_eq_true] at h
 constructor <;> (intro hm; have := h.2 _ hm; revert this; decide)
theorem name_len (nm : Bs) (m : Bool) (h : nameB nm m = true) : 1 ≤ nm.length ∧ nm.length ≤ 60 := by
 unfold nameB at h
 simp only [Bool.and_eq_true, decide_eq_true_eq] at h
 exact h.1
theorem Plain.head {p : Bs} (h : Plain p) : ∃ c q, p = c :: q ∧ c ≠ 91 := by
 rcases h with rfl | rfl | ⟨nm, _, rfl⟩
 ·exact ⟨_, _, rfl, by decide⟩
 ·exact ⟨_, _, rfl, by decide⟩
 ·exact ⟨_, _, rfl, by decide⟩
theorem Plain.pos {p : Bs} (h : Plain p) : 0 < p.length := by
 obtain ⟨c, q, rfl, _⟩ := h.head
 simp
theorem plain_iff (l : Bs) : plainB l = true ↔ Plain l := by
 unfold plainB Plain
 simp only [Bool.or_eq_true, Bool.and_eq_true, beq_iff_eq, decide_eq_true_eq]
 constructor
 ·rintro ((h | h) | ⟨⟨⟨h1, h2⟩, h3⟩, h4⟩)
  ·exact .inl h
  ·exact .inr (.inl h)
  ·refine .inr (.inr ⟨_, h4, ?_⟩)
   cases l with
   | nil => simp at h2
   | cons c q =>
    simp only [List.head?_cons, Option.some.injEq] at h2
    subst h2
    have hq : q ≠ [] := by rintro rfl; simp at h1
    have h5 : q.getLast? = some 59 := by rw [List.getLast?_cons] at h3; rw [List.getLast?_eq_some_getLast hq] at h3 ⊢; simpa using h3
    have h6 : q.getLast hq = 59 := by rw [List.getLast?_eq_some_getLast hq] at h5; simpa using h5
    have h7 : q = q.take (q.length - 1) ++ [59] := by
     rw [← List.dropLast_eq_take, ← h6, List.dropLast_concat_getLast]
    simp only [List.drop_succ_cons, List.drop_zero, List.length_cons, List.cons_append]
    rw [show q.length + 1 - 2 = q.length - 1 by omega, ← h7]
 ·rintro (h | h | ⟨nm, h1, rfl⟩)
  ·exact .inl (.inl h)
  ·exact .inl (.inr h)
  ·have hl := name_len nm _ h1
   refine .inr ⟨⟨⟨by simp; omega, by simp⟩, ?_⟩, ?_⟩
   ·rw [List.getLast?_append]; simp
   ·simpa using h1
theorem brk_rep (k : Nat) (q : Bs) (h : ∀ c r, q = c :: r → c ≠ 91) : brk (List.replicate k 91 ++ q) = k := by
 induction k with
 | zero =>
  cases q with
  | nil => rfl
  | cons c r =>
   have := h c r rfl
   simp [brk, this]
 | succ k ih => simp [List.replicate_succ, brk, ih]
theorem brk_split (l : Bs) : ∀ k, k ≤ brk l → l = List.replicate k 91 ++ l.drop k := by
 induction l with
 | nil => intro k hk; simp [brk] at hk; subst hk; rfl
 | cons c r ih =>
  intro k hk
  cases k with
  | zero => simp
  | succ k =>
   by_cases hc : c = 91
   ·subst hc
    simp [brk] at hk
    rw [List.replicate_succ, List.cons_append, List.drop_succ_cons, ← ih k hk]
   ·simp [brk, hc] at hk
theorem brk_le (l : Bs) : brk l ≤ l.length := by
 induction l with
 | nil => simp [brk]
 | cons c r ih =>
  unfold brk
  split
  ·simpa using ih
  ·simp
theorem brk_at (l : Bs) (k : Nat) (h : k < brk l) : l[k]? = some 91 := by
 have := brk_split l (k + 1) h
 rw [this, List.getElem?_append_left (by simp)]
 simp
theorem brk_stop (l : Bs) : l[brk l]? ≠ some 91 := by
 induction l with
 | nil => simp
 | cons c r ih =>
  unfold brk
  by_cases hc : c = 91
  ·subst hc; simpa using ih
  ·simp [hc]
theorem type_iff (l : Bs) : typeB l = true ↔ ∃ k, k ≤ 8 ∧ ∃ p, Plain p ∧ l = List.replicate k 91 ++ p := by
 unfold typeB
 rw [Bool.and_eq_true, decide_eq_true_eq, plain_iff]
 constructor
 ·rintro ⟨h1, h2⟩
  exact ⟨_, h1, _, h2, brk_split l _ (Nat.le_refl _)⟩
 ·rintro ⟨k, hk, p, hp, rfl⟩
  obtain ⟨c, q, rfl, hc⟩ := hp.head
  rw [brk_rep k (c :: q) (by rintro _ _ e; cases e; exact hc)]
  refine ⟨hk, ?_⟩
  rw [List.drop_left' (by simp)]
  exact hp
theorem plen_hit (p r : Bs) (h : Plain p) : plen (p ++ r) = p.length := by
 rcases h with rfl | rfl | ⟨nm, hn, rfl⟩
 ·simp [plen]
 ·simp [plen]
 ·have hno := (name_no nm hn).1
  have e : Go.Lib.indexByte (76 :: nm ++ [59] ++ r) 59 = ((nm.length + 1 : Nat) : Int) := by
   have := ix_app 59 (76 :: nm) r (by simp [hno])
   simpa using this
  unfold plen
  rw [e]
  have e2 : ((nm.length + 1 : Nat) : Int).toNat = nm.length + 1 := by omega
  rw [e2, if_neg (by simp), if_neg (by omega)]
  have e3 : (76 :: nm ++ [59] ++ r).take (nm.length + 1) = 76 :: nm := by simp
  rw [e3]
  simp [hn]
theorem plen_of (d : Bs) (h : plen d ≠ 0) : ∃ p r, d = p ++ r ∧ Plain p ∧ plen d = p.length := by
 by_cases h1 : d.head? = some 73
 ·cases d with
  | nil => simp at h1
  | cons c q =>
   simp at h1; subst h1
   exact ⟨[73], q, rfl, .inl rfl, plen_hit [73] q (.inl rfl)⟩
 by_cases h2 : d.head? = some 74
 ·cases d with
  | nil => simp at h2
  | cons c q =>
   simp at h2; subst h2
   exact ⟨[74], q, rfl, .inr (.inl rfl), plen_hit [74] q (.inr (.inl rfl))⟩
 unfold plen at h
 rw [if_neg (by simp [h1, h2])] at h
 by_cases h3 : Go.Lib.indexByte d 59 < 0
 ·rw [if_pos h3] at h; exact absurd rfl h
 rw [if_neg h3] at h
 by_cases h4 : ((d.take (Go.Lib.indexByte d 59).toNat).head? == some 76 && nameB ((d.take (Go.Lib.indexByte d 59).toNat).drop 1) false) = true
 ·obtain ⟨r, hd, hl⟩ := ix_split 59 d (by omega)
  rw [Bool.and_eq_true, beq_iff_eq] at h4
  generalize hn : d.take (Go.Lib.indexByte d 59).toNat = nm at hd h4
  cases nm with
  | nil => simp at h4
  | cons c q =>
   simp at h4
   obtain ⟨rfl, hq⟩ := h4
   have hp : Plain (76 :: q ++ [59]) := .inr (.inr ⟨q, hq, rfl⟩)
   have hdd : d = (76 :: q ++ [59]) ++ r := by simpa using hd
   refine ⟨_, r, hdd, hp, ?_⟩
   conv => lhs; rw [hdd]
   exact plen_hit _ _ hp
 ·rw [if_neg h4] at h; exact absurd rfl h
theorem tlen_iff (l : Bs) (n : Nat) : (tlen l ≠ 0 ∧ n = tlen l) ↔ ∃ k, k ≤ 8 ∧ ∃ p r, Plain p ∧ l = List.replicate k 91 ++ p ++ r ∧ n = k + p.length := by
 constructor
 ·rintro ⟨h, rfl⟩
  unfold tlen at h ⊢
  by_cases hp : plen (l.drop (arr8 l)) = 0
  ·rw [if_pos hp] at h; exact absurd rfl h
  rw [if_neg hp]
  obtain ⟨p, r, hd, hpl, hlen⟩ := plen_of _ hp
  have ha : arr8 l ≤ brk l ∧ arr8 l ≤ 8 := by unfold arr8; split <;> omega
  refine ⟨arr8 l, ha.2, p, r, hpl, ?_, by rw [hlen]⟩
  rw [List.append_assoc, ← hd]
  exact brk_split l _ ha.1
 ·rintro ⟨k, hk, p, r, hp, rfl, rfl⟩
  have hb : brk (List.replicate k 91 ++ p ++ r) = k := by
   rw [List.append_assoc]
   apply brk_rep
   obtain ⟨c, q, rfl, hc⟩ := hp.head
   rintro _ _ e
   cases e
   exact hc
  have ha : arr8 (List.replicate k 91 ++ p ++ r) = k := by unfold arr8; rw [hb, if_pos hk]
  have hd : (List.replicate k (91 : UInt8) ++ p ++ r).drop k = p ++ r := by
   rw [List.append_assoc, List.drop_left' (by simp)]
  have ht : tlen (List.replicate k 91 ++ p ++ r) = k + p.length := by
   unfold tlen
   rw [ha, hd, plen_hit p r hp]
   have := hp.pos
   rw [if_neg (by omega)]
  rw [ht]
  have := hp.pos
  exact ⟨by omega, rfl⟩
theorem tlen_le (l : Bs) : tlen l ≤ l.length := by
 by_cases h : tlen l = 0
 ·omega
 obtain ⟨k, hk, p, r, hp, hl, hn⟩ := (tlen_iff l (tlen l)).1 ⟨h, rfl⟩
 rw [hn]
 conv => rhs; rw [hl]
 simp
theorem type_take (l : Bs) (n : Nat) (hn : n ≤ l.length) : typeB (l.take n) = decide (tlen l ≠ 0 ∧ n = tlen l) := by
 rw [Bool.eq_iff_iff, decide_eq_true_eq, type_iff, tlen_iff]
 constructor
 ·rintro ⟨k, hk, p, hp, he⟩
  refine ⟨k, hk, p, l.drop n, hp, ?_, ?_⟩
  ·rw [← he, List.take_append_drop]
  ·have := congrArg List.length he
   simp at this
   omega
 ·rintro ⟨k, hk, p, r, hp, hl, rfl⟩
  refine ⟨k, hk, p, hp, ?_⟩
  rw [hl, List.take_left' (by simp)]
theorem type_whole (l : Bs) : typeB l = decide (tlen l ≠ 0 ∧ l.length = tlen l) := by
 have := type_take l l.length (Nat.le_refl _)
 rwa [List.take_length] at this
end Go.Proofs.Ytbkeneadoccodaa
/- Contracts of desc.inName and desc.inMethodName: for all bytes they answer inN and inM. -/
namespace Go.Proofs.Ytbkeneadoccodaa
open Go.RowKit Go
set_option linter.unusedVariables false
theorem ret_bool {a b : Bool} (h : a = b) : Ending.returned (.bool a) = .returned (.bool b) := by rw [h]
theorem u8_eq (c : UInt8) (n : Nat) (h : n < 256) : (c == n.toUInt8) = decide ((c.toNat : Int) = n) := by
 rw [Bool.eq_iff_iff]
 simp only [beq_iff_eq, decide_eq_true_eq]
 constructor
 ·rintro rfl
  simp
  omega
 ·intro e
  apply UInt8.toNat_inj.1
  simp
  omega
theorem inN_iff (c : UInt8) : inN c = true ↔ (97 ≤ (c.toNat : Int) ∧ (c.toNat : Int) ≤ 122) ∨ (65 ≤ (c.toNat : Int) ∧ (c.toNat : Int) ≤ 90) ∨ (48 ≤ (c.toNat : Int) ∧ (c.toNat : Int) ≤ 57) ∨ (c.toNat : Int) = 95 ∨ (c.toNat : Int) = 36 ∨ (c.toNat : Int) = 47 := by
 have e1 := u8_eq c 95 (by omega)
 have e2 := u8_eq c 36 (by omega)
 have e3 := u8_eq c 47 (by omega)
 unfold inN
 rw [show ((95 : UInt8)) = (95 : Nat).toUInt8 from rfl, show ((36 : UInt8)) = (36 : Nat).toUInt8 from rfl, show ((47 : UInt8)) = (47 : Nat).toUInt8 from rfl, e1, e2, e3]
 simp only [UInt8.le_iff_toNat_le, Bool.or_eq_true, Bool.and_eq_true, decide_eq_true_eq]
 simp
 omega
theorem inM_iff (c : UInt8) : inM c = true ↔ (c.toNat : Int) = 60 ∨ (c.toNat : Int) = 62 := by
 have e1 := u8_eq c 60 (by omega)
 have e2 := u8_eq c 62 (by omega)
 unfold inM
 rw [show ((60 : UInt8)) = (60 : Nat).toUInt8 from rfl, show ((62 : UInt8)) = (62 : Nat).toUInt8 from rfl, e1, e2]
 simp
set_option maxHeartbeats 1000000 in
set_option maxRecDepth 100000 in
theorem inName_any (c : UInt8) (w : World) :
  Calls Try.prog 143 #[.int .u8 c.toNat] w fun e w' => e = .returned (.bool (inN c)) ∧ w = w' := by
 have hi := inN_iff c
 go_enter Try.func143, Try.ntmps143
 revert hi
 generalize inN c = bb
 intro hi
 have HI := hi
 clear hi
 go_wp2
 all_goals
  go_ret
  refine ⟨ret_bool ?_, rfl⟩
  rw [Bool.eq_iff_iff, HI]
  first | done | (simp; done) | (simp; omega) | (simp at *; omega)
set_option maxHeartbeats 1000000 in
set_option maxRecDepth 100000 in
theorem inMethodName_any (c : UInt8) (w : World) :
  Calls Try.prog 144 #[.int .u8 c.toNat] w fun e w' => e = .returned (.bool (inM c)) ∧ w = w' := by
 go_enter Try.func144, Try.ntmps144
 go_wp2
 all_goals
  go_ret
  refine ⟨ret_bool ?_, rfl⟩
  rw [Bool.eq_iff_iff, inM_iff]
  first | done | (simp; done) | (simp; omega) | (simp at *; omega)
end Go.Proofs.Ytbkeneadoccodaa
/- Contract of desc.Name: for all texts it answers nameB. -/
namespace Go.Proofs.Ytbkeneadoccodaa
open Go.RowKit
set_option linter.unusedVariables false
theorem all_take_succ (p : UInt8 → Bool) (s : ByteArray) (k : Nat) (h : k < s.size) : (s.data.toList.take (k + 1)).all p = ((s.data.toList.take k).all p && p s[k]) := by
 have e : s.data.toList.take (k + 1) = s.data.toList.take k ++ [s[k]] := by
  rw [List.take_succ_eq_append_getElem (by simpa using h)]; rfl
 rw [e, List.all_append]
 simp
theorem all_of_bad (p : UInt8 → Bool) (s : ByteArray) (k : Nat) (h : k < s.size) (hb : p s[k] = false) : s.data.toList.all p = false := by
 rw [List.all_eq_false]
 refine ⟨s[k], ?_, by simp [hb]⟩
 have : s[k] = s.data.toList[k]'(by simpa using h) := by simp; rfl
 rw [this]
 exact List.getElem_mem _
theorem size_len (s : ByteArray) : s.data.toList.length = s.size := by simp
def allB (l : Bs) (m : Bool) : Bool := l.all (okc m)
theorem allB_succ (s : ByteArray) (m : Bool) (k : Nat) (h : k < s.size) : allB (s.data.toList.take (k + 1)) m = (allB (s.data.toList.take k) m && okc m s[k]) := all_take_succ _ s k h
theorem allB_bad (s : ByteArray) (m : Bool) (k : Nat) (h : k < s.size) (hb : okc m s[k] = false) : allB s.data.toList m = false := all_of_bad _ s k h hb
theorem allB_nil (m : Bool) : allB [] m = true := rfl
theorem nameB_out (s : ByteArray) (m : Bool) (h : s.size < 1 ∨ 60 < s.size) : nameB s.data.toList m = false := by
 unfold nameB
 rw [size_len, Bool.and_eq_false_iff, Bool.and_eq_false_iff, decide_eq_false_iff_not, decide_eq_false_iff_not]
 omega
theorem nameB_in (s : ByteArray) (m : Bool) (h1 : ¬ s.size < 1) (h2 : ¬ 60 < s.size) : nameB s.data.toList m = allB s.data.toList m := by
 unfold nameB allB
 rw [size_len, decide_eq_true (by omega), decide_eq_true (by omega)]
 rfl
set_option maxHeartbeats 1000000 in
set_option maxRecDepth 100000 in
theorem name_core (s : ByteArray) (b m : Bool) (HB : Hid (b = m)) (w : World) (hs : s.size ≤ maxLen) :
    Calls Try.prog 136 #[.string s, .bool m] w fun e w' => e = .returned (.bool (nameB s.data.toList b)) ∧ w = w' := by
  unfold maxLen at hs
  by_cases h1 : s.size < 1
  · rw [nameB_out s b (.inl h1)]
    go_enter Try.func136, Try.ntmps136
    go_wp2_with (fail)
    go_ret
    exact ⟨rfl, rfl⟩
  by_cases h2 : 60 < s.size
  · rw [nameB_out s b (.inr h2)]
    go_enter Try.func136, Try.ntmps136
    go_wp2_with (fail)
    go_ret
    exact ⟨rfl, rfl⟩
  rw [nameB_in s b h1 h2]
  cases m
  all_goals
    go_enter Try.func136, Try.ntmps136
    go_wp2_with (fail)
    go_loop [16, 5] (fun n i => ∃ k : Nat, k ≤ s.size ∧ n = .int .i64 k ∧ allB (s.data.toList.take k) b = true) (fun n _ => s.size - (intOf n).toNat)
    case atStart => exact ⟨0, Nat.zero_le _, rfl, allB_nil _⟩
    case round =>
      obtain ⟨k, hk, rfl, hall⟩ := hrel
      have HA := Lib.hid hall
      clear hall
      by_cases hlt : k < s.size
      · cases hN : inN s[k] <;> cases hM : inM s[k]
        all_goals
          go_wp2_with (first | (go_at_call 143; refine (inName_any _ _).mono ?_; rintro e w' ⟨rfl, rfl⟩) | (go_at_call 144; refine (inMethodName_any _ _).mono ?_; rintro e w' ⟨rfl, rfl⟩))
          first
          | (go_ret
             refine ⟨ret_bool ?_, rfl⟩
             rw [allB_bad s b k hlt (by unfold okc; rw [HB.out, hN, hM]; rfl)])
          | (go_round
             case rel => exact ⟨k + 1, by omega, by go_num, by rw [allB_succ s b k hlt, HA.out]; unfold okc; rw [HB.out, hN, hM]; rfl⟩
             case measure => simp [intOf]; omega)
      · go_wp2_with (fail)
        go_ret
        refine ⟨ret_bool ?_, rfl⟩
        have hke : s.data.toList.take k = s.data.toList := List.take_of_length_le (by rw [size_len]; omega)
        have := HA.out
        rw [hke] at this
        exact this.symm
theorem name_any (s : ByteArray) (m : Bool) (w : World) (hs : s.size ≤ maxLen) :
  Calls Try.prog 136 #[.string s, .bool m] w fun e w' => e = .returned (.bool (nameB s.data.toList m)) ∧ w = w' := name_core s m m (Lib.hid rfl) w hs
end Go.Proofs.Ytbkeneadoccodaa
