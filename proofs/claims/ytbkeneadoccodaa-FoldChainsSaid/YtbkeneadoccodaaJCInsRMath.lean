/- The document's Check in plain words: it is the program's. No program in this text. -/
import Derived.Test.YtbkeneadoccodaaM4
import Derived.Test.YtbkeneadoccodaaM3
namespace Go.Proofs.Ytbkeneadoccodaa
open Go.RowKit Go
set_option linter.unusedVariables false
set_option linter.unusedSimpArgs false
def wantB (k : Int) (s : UInt8) : Bool := if s = 45 ∨ s = 63 then true else if s = 42 ∨ s = 61 then decide (0 < k) else if s = 110 then k == 1 || k == 2 else k == (s.toNat : Int) - 48
def placeB (n : Nat) (i : Int) : Bool := decide (0 ≤ i) && decide (i < (n : Int))
def callD (rs : List Int) (x : InI) : Bool := !(decide (x.num < 0) && !(x.op == 25)) && decide (x.args.length ≤ 21) && !(!(x.dst == -1) && kd rs x.dst == 0) && x.args.all (fun r => !(kd rs r == 0)) && ((!(x.op == 24) && !(x.op == 25)) || objB rs x.args)
def restD (rs : List Int) (ret : Int) (n : Nat) (x : InI) : Bool :=
 if x.op = 1 then (kd rs x.dst == 2 || decide (-2147483648 ≤ x.num) && decide (x.num < 2147483648))
 else if x.op = 4 then kd rs x.dst == kd rs x.a
 else if x.op = 5 then decide (0 < (Nu.knd x.num).2.1) && (kd rs x.dst == (Nu.knd x.num).2.2) && (kd rs x.a == (Nu.knd x.num).1) && (kd rs x.b == (Nu.knd x.num).2.1)
 else if x.op = 6 then decide (0 < (Nu.knd x.num).1) && ((Nu.knd x.num).2.1 == 0) && (kd rs x.dst == (Nu.knd x.num).2.2) && (kd rs x.a == (Nu.knd x.num).1)
 else if x.op ∈ ([12, 21, 22] : List Int) then typeB x.ref
 else if x.op ∈ ([16, 17] : List Int) then decide (0 ≤ x.num)
 else if x.op ∈ ([23, 24, 25, 26] : List Int) then callD rs x
 else if x.op = 28 then decide (0 ≤ x.num) && decide (x.num ≤ 5) && placeB n x.too
 else if x.op = 27 then placeB n x.too
 else if x.op = 29 then ((x.num == 0) || (x.num == 1)) && ((x.b == -1) || (kd rs x.b == 3)) && placeB n x.too
 else if x.op = 30 then (if ret = 0 then x.a == -1 else !(x.a == -1) && (kd rs x.a == ret))
 else true
def wantsD (rs : List Int) (x : InI) : Bool := wantB (kd rs x.dst) (sg x.op 0) && wantB (kd rs x.a) (sg x.op 1) && wantB (kd rs x.b) (sg x.op 2) && wantB (kd rs x.c) (sg x.op 3)
def oneD (rs : List Int) (ret : Int) (n : Nat) (x : InI) : Bool := !(rowT x.op == []) && wantsD rs x && restD rs ret n x
theorem may_way {rs : List Int} (hk : KR rs) (r f : Int) (hf : (f == 0) = false) : mayB rs r f = if r = -1 then hasB f 0 else !(kd rs r == 0) && hasB f (kd rs r) := by
 unfold mayB
 rw [hf, Bool.false_or]
 split
 ·rfl
 ·rcases kd_ways hk r with ⟨h1, h2⟩ | ⟨h1, h2, h3⟩
  ·rw [h1]
   have : (decide (0 ≤ r) && decide (r < (rs.length : Int))) = false := by rw [Bool.and_eq_false_iff, decide_eq_false_iff_not, decide_eq_false_iff_not]; omega
   rw [this]
   rfl
  ·rw [decide_eq_true h2, decide_eq_true h3]
   have : (kd rs r == 0) = false := by rw [beq_eq_false_iff_ne]; omega
   rw [this]
   rfl
theorem kd_m1 (rs : List Int) : kd rs (-1) = 0 := kd_out (.inl (by decide))
theorem may2 {rs : List Int} (hk : KR rs) (r : Int) : mayB rs r 2 = (kd rs r == 1) := by
 rw [may_way hk r 2 rfl]
 by_cases e : r = -1
 ·subst e; rw [if_pos rfl, kd_m1]; decide
 ·rw [if_neg e]
  rcases kd_ways hk r with ⟨h1, _⟩ | ⟨h1 | h1 | h1, _⟩ <;> rw [h1] <;> decide
theorem may6 {rs : List Int} (hk : KR rs) (r : Int) : mayB rs r 6 = (kd rs r == 1 || kd rs r == 2) := by
 rw [may_way hk r 6 rfl]
 by_cases e : r = -1
 ·subst e; rw [if_pos rfl, kd_m1]; decide
 ·rw [if_neg e]
  rcases kd_ways hk r with ⟨h1, _⟩ | ⟨h1 | h1 | h1, _⟩ <;> rw [h1] <;> decide
theorem may8 {rs : List Int} (hk : KR rs) (r : Int) : mayB rs r 8 = (kd rs r == 3) := by
 rw [may_way hk r 8 rfl]
 by_cases e : r = -1
 ·subst e; rw [if_pos rfl, kd_m1]; decide
 ·rw [if_neg e]
  rcases kd_ways hk r with ⟨h1, _⟩ | ⟨h1 | h1 | h1, _⟩ <;> rw [h1] <;> decide
theorem may14 {rs : List Int} (hk : KR rs) (r : Int) : mayB rs r 14 = decide (0 < kd rs r) := by
 rw [may_way hk r 14 rfl]
 by_cases e : r = -1
 ·subst e; rw [if_pos rfl, kd_m1]; decide
 ·rw [if_neg e]
  rcases kd_ways hk r with ⟨h1, _⟩ | ⟨h1 | h1 | h1, _⟩ <;> rw [h1] <;> decide
theorem may9 {rs : List Int} (hk : KR rs) (r : Int) : mayB rs r 9 = ((r == -1) || (kd rs r == 3)) := by
 rw [may_way hk r 9 rfl]
 by_cases e : r = -1
 ·subst e; rw [if_pos rfl]; exact (show hasB 9 0 = true by decide).trans (by simp)
 ·rw [if_neg e, beq_eq_false_iff_ne.2 e]
  rcases kd_ways hk r with ⟨h1, _⟩ | ⟨h1 | h1 | h1, _⟩ <;> rw [h1] <;> decide
theorem may15 {rs : List Int} (hk : KR rs) (r : Int) : mayB rs r 15 = ((r == -1) || decide (0 < kd rs r)) := by
 rw [may_way hk r 15 rfl]
 by_cases e : r = -1
 ·subst e; rw [if_pos rfl]; exact (show hasB 15 0 = true by decide).trans (by simp)
 ·rw [if_neg e, beq_eq_false_iff_ne.2 e]
  rcases kd_ways hk r with ⟨h1, _⟩ | ⟨h1 | h1 | h1, _⟩ <;> rw [h1] <;> decide
theorem knd_two (c : Int) (h : 0 < (Nu.knd c).2.1) : ((Nu.knd c).1 = 1 ∨ (Nu.knd c).1 = 2) ∧ ((Nu.knd c).2.1 = 1 ∨ (Nu.knd c).2.1 = 2) ∧ ((Nu.knd c).2.2 = 1 ∨ (Nu.knd c).2.2 = 2) := by
 rcases Nu.knd_cases c with rfl | rfl | rfl | rfl | rfl | rfl | rfl | rfl | rfl | rfl | rfl | rfl | rfl | rfl | rfl | rfl | rfl | rfl | rfl | rfl | rfl | rfl | rfl | rfl | rfl | rfl | rfl | rfl | rfl | rfl | hn
 all_goals first
  | (rw [Nu.knd_none c hn] at h; exact absurd h (by decide))
  | (revert h; decide +kernel)
theorem knd_one (c : Int) (h : 0 < (Nu.knd c).1) (h2 : (Nu.knd c).2.1 = 0) : ((Nu.knd c).1 = 1 ∨ (Nu.knd c).1 = 2) ∧ ((Nu.knd c).2.2 = 1 ∨ (Nu.knd c).2.2 = 2) := by
 rcases Nu.knd_cases c with rfl | rfl | rfl | rfl | rfl | rfl | rfl | rfl | rfl | rfl | rfl | rfl | rfl | rfl | rfl | rfl | rfl | rfl | rfl | rfl | rfl | rfl | rfl | rfl | rfl | rfl | rfl | rfl | rfl | rfl | hn
 all_goals first
  | (rw [Nu.knd_none c hn] at h; exact absurd h (by decide))
  | (revert h h2; decide +kernel)
theorem inB_kd {rs : List Int} (hk : KR rs) (r : Int) : inB rs r = !(kd rs r == 0) := by
 unfold inB
 rcases kd_ways hk r with ⟨h1, h2⟩ | ⟨h1, h2, h3⟩
 ·rw [h1]
  rw [show (!((0 : Int) == 0)) = false from rfl, Bool.and_eq_false_iff, decide_eq_false_iff_not, decide_eq_false_iff_not]
  omega
 ·rw [decide_eq_true h2, decide_eq_true h3, beq_eq_false_iff_ne.2 (by omega)]
  rfl
theorem call_eq {rs : List Int} (hk : KR rs) (x : InI) : callD rs x = (!(decide (x.num < 0) && !(x.op == 25)) && mayB rs x.dst 15 && argsB rs x.args && ((!(x.op == 24) && !(x.op == 25)) || objB rs x.args)) := by
 unfold callD argsB
 rw [may15 hk]
 have h1 : (!(!(x.dst == -1) && kd rs x.dst == 0)) = ((x.dst == -1) || decide (0 < kd rs x.dst)) := by
  rcases kd_ways hk x.dst with ⟨h1, _⟩ | ⟨h1 | h1 | h1, _⟩ <;> rw [h1] <;> cases (x.dst == -1) <;> rfl
 have h2 : x.args.all (fun r => !(kd rs r == 0)) = x.args.all (inB rs) := by
  congr 1
  funext r
  exact (inB_kd hk r).symm
 rw [h1, h2]
 cases (!(decide (x.num < 0) && !(x.op == 25))) <;> cases ((x.dst == -1) || decide (0 < kd rs x.dst)) <;> cases decide (x.args.length ≤ 21) <;> cases x.args.all (inB rs) <;> rfl
def oneP (rs : List Int) (ret : Int) (n : Nat) (x : InI) : Bool := decide (1 ≤ x.op) && decide (x.op ≤ 33) && kindsB rs x && restB rs ret x && (!leadsB x.op || placeB n x.too)
theorem pairs3 {a b d p q s : Int} : decide ((p, q, s) = (a, b, d)) = ((d == s) && (a == p) && (b == q)) := by
 rw [Bool.eq_iff_iff]
 simp only [decide_eq_true_eq, Bool.and_eq_true, beq_iff_eq, Prod.mk.injEq]
 exact ⟨fun ⟨h1, h2, h3⟩ => ⟨⟨h3.symm, h1.symm⟩, h2.symm⟩, fun ⟨⟨h1, h2⟩, h3⟩ => ⟨h2.symm, h3.symm, h1.symm⟩⟩
theorem neg_num (n : Int) : (!(decide (n < 0) && !false)) = decide (0 ≤ n) := by
 by_cases h : n < 0
 ·rw [decide_eq_true h, decide_eq_false (by omega)]; rfl
 ·rw [decide_eq_false h, decide_eq_true (by omega)]; rfl
theorem zero_one (n : Int) : ((n == 0) || (n == 1)) = (decide (0 ≤ n) && decide (n ≤ 1)) := by
 rw [Bool.eq_iff_iff]
 simp only [Bool.or_eq_true, beq_iff_eq, Bool.and_eq_true, decide_eq_true_eq]
 omega
theorem one_eq_1 {rs : List Int} (hk : KR rs) {ret : Int} (hret : 0 ≤ ret) (n : Nat) (d a b k num t : Int) (r : Bs) (l : List Int) : oneD rs ret n ⟨1, d, a, b, k, num, t, r, l⟩ = oneP rs ret n ⟨1, d, a, b, k, num, t, r, l⟩ := by
 show (true && ((kd rs d == 1 || kd rs d == 2) && true && true && true) && (kd rs d == 2 || decide (-2147483648 ≤ num) && decide (num < 2147483648))) = (true && true && (mayB rs d 6 && true && true && true) && (kd rs d == 2 || decide (-2147483648 ≤ num) && decide (num < 2147483648)) && true)
 rw [may6 hk]
 simp only [Bool.true_and, Bool.and_true]
 try ac_rfl
theorem one_eq_2 {rs : List Int} (hk : KR rs) {ret : Int} (hret : 0 ≤ ret) (n : Nat) (d a b k num t : Int) (r : Bs) (l : List Int) : oneD rs ret n ⟨2, d, a, b, k, num, t, r, l⟩ = oneP rs ret n ⟨2, d, a, b, k, num, t, r, l⟩ := by
 show (true && ((kd rs d == 3) && true && true && true) && true) = (true && true && (mayB rs d 8 && true && true && true) && true && true)
 rw [may8 hk]
 simp only [Bool.true_and, Bool.and_true]
theorem one_eq_3 {rs : List Int} (hk : KR rs) {ret : Int} (hret : 0 ≤ ret) (n : Nat) (d a b k num t : Int) (r : Bs) (l : List Int) : oneD rs ret n ⟨3, d, a, b, k, num, t, r, l⟩ = oneP rs ret n ⟨3, d, a, b, k, num, t, r, l⟩ := by
 show (true && ((kd rs d == 3) && true && true && true) && true) = (true && true && (mayB rs d 8 && true && true && true) && true && true)
 rw [may8 hk]
 simp only [Bool.true_and, Bool.and_true]
theorem one_eq_4 {rs : List Int} (hk : KR rs) {ret : Int} (hret : 0 ≤ ret) (n : Nat) (d a b k num t : Int) (r : Bs) (l : List Int) : oneD rs ret n ⟨4, d, a, b, k, num, t, r, l⟩ = oneP rs ret n ⟨4, d, a, b, k, num, t, r, l⟩ := by
 show (true && (decide (0 < kd rs d) && decide (0 < kd rs a) && true && true) && (kd rs d == kd rs a)) = (true && true && (mayB rs d 14 && mayB rs a 14 && true && true) && (kd rs d == kd rs a) && true)
 rw [may14 hk, may14 hk]
 simp only [Bool.true_and, Bool.and_true]
 try ac_rfl
theorem one_eq_5 {rs : List Int} (hk : KR rs) {ret : Int} (hret : 0 ≤ ret) (n : Nat) (d a b k num t : Int) (r : Bs) (l : List Int) : oneD rs ret n ⟨5, d, a, b, k, num, t, r, l⟩ = oneP rs ret n ⟨5, d, a, b, k, num, t, r, l⟩ := by
 have M6 := fun r => may6 hk r
 show (true && (true && true && true && true) && (decide (0 < (Nu.knd num).2.1) && (kd rs d == (Nu.knd num).2.2) && (kd rs a == (Nu.knd num).1) && (kd rs b == (Nu.knd num).2.1))) = (true && true && (mayB rs d 6 && mayB rs a 6 && mayB rs b 6 && true) && decide (Nu.knd num = (kd rs a, kd rs b, kd rs d)) && true)
 rw [M6, M6, M6]
 have hz := knd_two num
 generalize Nu.knd num = K at *
 obtain ⟨p, q, s⟩ := K
 dsimp only at hz ⊢
 rw [pairs3]
 by_cases hp : 0 < q
 ·obtain ⟨h1, h2, h3⟩ := hz hp
  by_cases e1 : kd rs d = s <;> by_cases e2 : kd rs a = p <;> by_cases e3 : kd rs b = q
  case pos =>
   rw [e1, e2, e3]
   rcases h1 with rfl | rfl <;> rcases h2 with rfl | rfl <;> rcases h3 with rfl | rfl <;> rfl
  all_goals ((try rw [beq_eq_false_iff_ne.2 e1]); (try rw [beq_eq_false_iff_ne.2 e2]); (try rw [beq_eq_false_iff_ne.2 e3]); simp)
 ·rw [decide_eq_false hp]
  by_cases e3 : kd rs b = q
  ·have : (kd rs b == 1 || kd rs b == 2) = false := by rw [Bool.or_eq_false_iff, beq_eq_false_iff_ne, beq_eq_false_iff_ne]; omega
   rw [this]
   simp
  ·rw [beq_eq_false_iff_ne.2 e3]
   simp
theorem one_eq_6 {rs : List Int} (hk : KR rs) {ret : Int} (hret : 0 ≤ ret) (n : Nat) (d a b k num t : Int) (r : Bs) (l : List Int) : oneD rs ret n ⟨6, d, a, b, k, num, t, r, l⟩ = oneP rs ret n ⟨6, d, a, b, k, num, t, r, l⟩ := by
 have M6 := fun r => may6 hk r
 show (true && (true && true && true && true) && (decide (0 < (Nu.knd num).1) && ((Nu.knd num).2.1 == 0) && (kd rs d == (Nu.knd num).2.2) && (kd rs a == (Nu.knd num).1))) = (true && true && (mayB rs d 6 && mayB rs a 6 && true && true) && decide (Nu.knd num = (kd rs a, 0, kd rs d)) && true)
 rw [M6, M6]
 have hz := knd_one num
 generalize Nu.knd num = K at *
 obtain ⟨p, q, s⟩ := K
 dsimp only at hz ⊢
 rw [pairs3]
 by_cases hp : 0 < p
 ·by_cases hq : q = 0
  ·obtain ⟨h1, h3⟩ := hz hp hq
   subst hq
   by_cases e1 : kd rs d = s <;> by_cases e2 : kd rs a = p
   case pos =>
    rw [e1, e2]
    rcases h1 with rfl | rfl <;> rcases h3 with rfl | rfl <;> rfl
   all_goals ((try rw [beq_eq_false_iff_ne.2 e1]); (try rw [beq_eq_false_iff_ne.2 e2]); simp)
  ·have : ((0 : Int) == q) = false := by rw [beq_eq_false_iff_ne]; omega
   rw [this, beq_eq_false_iff_ne.2 hq]
   simp
 ·rw [decide_eq_false hp]
  by_cases e3 : kd rs a = p
  ·have : (kd rs a == 1 || kd rs a == 2) = false := by rw [Bool.or_eq_false_iff, beq_eq_false_iff_ne, beq_eq_false_iff_ne]; omega
   rw [this]
   simp
  ·rw [beq_eq_false_iff_ne.2 e3]
   simp
theorem one_eq_7 {rs : List Int} (hk : KR rs) {ret : Int} (hret : 0 ≤ ret) (n : Nat) (d a b k num t : Int) (r : Bs) (l : List Int) : oneD rs ret n ⟨7, d, a, b, k, num, t, r, l⟩ = oneP rs ret n ⟨7, d, a, b, k, num, t, r, l⟩ := by
 show (true && (true && (kd rs a == 1 || kd rs a == 2) && true && true) && true) = (true && true && (true && mayB rs a 6 && true && true) && true && true)
 rw [may6 hk]
 simp only [Bool.true_and, Bool.and_true]
theorem one_eq_8 {rs : List Int} (hk : KR rs) {ret : Int} (hret : 0 ≤ ret) (n : Nat) (d a b k num t : Int) (r : Bs) (l : List Int) : oneD rs ret n ⟨8, d, a, b, k, num, t, r, l⟩ = oneP rs ret n ⟨8, d, a, b, k, num, t, r, l⟩ := by
 show (true && (true && (kd rs a == 3) && true && true) && true) = (true && true && (true && mayB rs a 8 && true && true) && true && true)
 rw [may8 hk]
 simp only [Bool.true_and, Bool.and_true]
theorem one_eq_9 {rs : List Int} (hk : KR rs) {ret : Int} (hret : 0 ≤ ret) (n : Nat) (d a b k num t : Int) (r : Bs) (l : List Int) : oneD rs ret n ⟨9, d, a, b, k, num, t, r, l⟩ = oneP rs ret n ⟨9, d, a, b, k, num, t, r, l⟩ := by
 show (true && (true && (kd rs a == 3) && (kd rs b == 1) && true) && true) = (true && true && (true && mayB rs a 8 && mayB rs b 2 && true) && true && true)
 rw [may8 hk, may2 hk]
 simp only [Bool.true_and, Bool.and_true]
theorem one_eq_10 {rs : List Int} (hk : KR rs) {ret : Int} (hret : 0 ≤ ret) (n : Nat) (d a b k num t : Int) (r : Bs) (l : List Int) : oneD rs ret n ⟨10, d, a, b, k, num, t, r, l⟩ = oneP rs ret n ⟨10, d, a, b, k, num, t, r, l⟩ := by
 show (true && (true && (kd rs a == 1) && true && true) && true) = (true && true && (true && mayB rs a 2 && true && true) && true && true)
 rw [may2 hk]
 simp only [Bool.true_and, Bool.and_true]
theorem one_eq_11 {rs : List Int} (hk : KR rs) {ret : Int} (hret : 0 ≤ ret) (n : Nat) (d a b k num t : Int) (r : Bs) (l : List Int) : oneD rs ret n ⟨11, d, a, b, k, num, t, r, l⟩ = oneP rs ret n ⟨11, d, a, b, k, num, t, r, l⟩ := by
 show (true && (true && (kd rs a == 3) && (kd rs b == 3) && true) && true) = (true && true && (true && mayB rs a 8 && mayB rs b 8 && true) && true && true)
 rw [may8 hk, may8 hk]
 simp only [Bool.true_and, Bool.and_true]
theorem one_eq_12 {rs : List Int} (hk : KR rs) {ret : Int} (hret : 0 ≤ ret) (n : Nat) (d a b k num t : Int) (r : Bs) (l : List Int) : oneD rs ret n ⟨12, d, a, b, k, num, t, r, l⟩ = oneP rs ret n ⟨12, d, a, b, k, num, t, r, l⟩ := by
 show (true && (true && (kd rs a == 3) && true && true) && typeB r) = (true && true && (true && mayB rs a 8 && true && true) && typeB r && true)
 rw [may8 hk]
 simp only [Bool.true_and, Bool.and_true]
 try ac_rfl
theorem one_eq_13 {rs : List Int} (hk : KR rs) {ret : Int} (hret : 0 ≤ ret) (n : Nat) (d a b k num t : Int) (r : Bs) (l : List Int) : oneD rs ret n ⟨13, d, a, b, k, num, t, r, l⟩ = oneP rs ret n ⟨13, d, a, b, k, num, t, r, l⟩ := by
 show (true && (decide (0 < kd rs d) && (kd rs a == 3) && (kd rs b == 1) && true) && true) = (true && true && (mayB rs d 14 && mayB rs a 8 && mayB rs b 2 && true) && true && true)
 rw [may14 hk, may8 hk, may2 hk]
 simp only [Bool.true_and, Bool.and_true]
theorem one_eq_14 {rs : List Int} (hk : KR rs) {ret : Int} (hret : 0 ≤ ret) (n : Nat) (d a b k num t : Int) (r : Bs) (l : List Int) : oneD rs ret n ⟨14, d, a, b, k, num, t, r, l⟩ = oneP rs ret n ⟨14, d, a, b, k, num, t, r, l⟩ := by
 show (true && (true && (kd rs a == 3) && (kd rs b == 1) && decide (0 < kd rs k)) && true) = (true && true && (true && mayB rs a 8 && mayB rs b 2 && mayB rs k 14) && true && true)
 rw [may8 hk, may2 hk, may14 hk]
 simp only [Bool.true_and, Bool.and_true]
theorem one_eq_15 {rs : List Int} (hk : KR rs) {ret : Int} (hret : 0 ≤ ret) (n : Nat) (d a b k num t : Int) (r : Bs) (l : List Int) : oneD rs ret n ⟨15, d, a, b, k, num, t, r, l⟩ = oneP rs ret n ⟨15, d, a, b, k, num, t, r, l⟩ := by
 show (true && ((kd rs d == 1) && (kd rs a == 3) && true && true) && true) = (true && true && (mayB rs d 2 && mayB rs a 8 && true && true) && true && true)
 rw [may2 hk, may8 hk]
 simp only [Bool.true_and, Bool.and_true]
theorem one_eq_16 {rs : List Int} (hk : KR rs) {ret : Int} (hret : 0 ≤ ret) (n : Nat) (d a b k num t : Int) (r : Bs) (l : List Int) : oneD rs ret n ⟨16, d, a, b, k, num, t, r, l⟩ = oneP rs ret n ⟨16, d, a, b, k, num, t, r, l⟩ := by
 show (true && (decide (0 < kd rs d) && (kd rs a == 3) && true && true) && decide (0 ≤ num)) = (true && true && (mayB rs d 14 && mayB rs a 8 && true && true) && decide (0 ≤ num) && true)
 rw [may14 hk, may8 hk]
 simp only [Bool.true_and, Bool.and_true]
 try ac_rfl
theorem one_eq_17 {rs : List Int} (hk : KR rs) {ret : Int} (hret : 0 ≤ ret) (n : Nat) (d a b k num t : Int) (r : Bs) (l : List Int) : oneD rs ret n ⟨17, d, a, b, k, num, t, r, l⟩ = oneP rs ret n ⟨17, d, a, b, k, num, t, r, l⟩ := by
 show (true && (true && (kd rs a == 3) && decide (0 < kd rs b) && true) && decide (0 ≤ num)) = (true && true && (true && mayB rs a 8 && mayB rs b 14 && true) && decide (0 ≤ num) && true)
 rw [may8 hk, may14 hk]
 simp only [Bool.true_and, Bool.and_true]
 try ac_rfl
theorem one_eq_18 {rs : List Int} (hk : KR rs) {ret : Int} (hret : 0 ≤ ret) (n : Nat) (d a b k num t : Int) (r : Bs) (l : List Int) : oneD rs ret n ⟨18, d, a, b, k, num, t, r, l⟩ = oneP rs ret n ⟨18, d, a, b, k, num, t, r, l⟩ := by
 show (true && (decide (0 < kd rs d) && true && true && true) && true) = (true && true && (mayB rs d 14 && true && true && true) && true && true)
 rw [may14 hk]
 simp only [Bool.true_and, Bool.and_true]
theorem one_eq_19 {rs : List Int} (hk : KR rs) {ret : Int} (hret : 0 ≤ ret) (n : Nat) (d a b k num t : Int) (r : Bs) (l : List Int) : oneD rs ret n ⟨19, d, a, b, k, num, t, r, l⟩ = oneP rs ret n ⟨19, d, a, b, k, num, t, r, l⟩ := by
 show (true && (true && decide (0 < kd rs a) && true && true) && true) = (true && true && (true && mayB rs a 14 && true && true) && true && true)
 rw [may14 hk]
 simp only [Bool.true_and, Bool.and_true]
theorem one_eq_20 {rs : List Int} (hk : KR rs) {ret : Int} (hret : 0 ≤ ret) (n : Nat) (d a b k num t : Int) (r : Bs) (l : List Int) : oneD rs ret n ⟨20, d, a, b, k, num, t, r, l⟩ = oneP rs ret n ⟨20, d, a, b, k, num, t, r, l⟩ := by
 show (true && ((kd rs d == 3) && true && true && true) && true) = (true && true && (mayB rs d 8 && true && true && true) && true && true)
 rw [may8 hk]
 simp only [Bool.true_and, Bool.and_true]
theorem one_eq_21 {rs : List Int} (hk : KR rs) {ret : Int} (hret : 0 ≤ ret) (n : Nat) (d a b k num t : Int) (r : Bs) (l : List Int) : oneD rs ret n ⟨21, d, a, b, k, num, t, r, l⟩ = oneP rs ret n ⟨21, d, a, b, k, num, t, r, l⟩ := by
 show (true && ((kd rs d == 3) && (kd rs a == 1) && true && true) && typeB r) = (true && true && (mayB rs d 8 && mayB rs a 2 && true && true) && typeB r && true)
 rw [may8 hk, may2 hk]
 simp only [Bool.true_and, Bool.and_true]
 try ac_rfl
theorem one_eq_22 {rs : List Int} (hk : KR rs) {ret : Int} (hret : 0 ≤ ret) (n : Nat) (d a b k num t : Int) (r : Bs) (l : List Int) : oneD rs ret n ⟨22, d, a, b, k, num, t, r, l⟩ = oneP rs ret n ⟨22, d, a, b, k, num, t, r, l⟩ := by
 show (true && ((kd rs d == 1) && (kd rs a == 3) && true && true) && typeB r) = (true && true && (mayB rs d 2 && mayB rs a 8 && true && true) && typeB r && true)
 rw [may2 hk, may8 hk]
 simp only [Bool.true_and, Bool.and_true]
 try ac_rfl
theorem one_eq_23 {rs : List Int} (hk : KR rs) {ret : Int} (hret : 0 ≤ ret) (n : Nat) (d a b k num t : Int) (r : Bs) (l : List Int) : oneD rs ret n ⟨23, d, a, b, k, num, t, r, l⟩ = oneP rs ret n ⟨23, d, a, b, k, num, t, r, l⟩ := by
 show (true && (true && true && true && true) && callD rs ⟨23, d, a, b, k, num, t, r, l⟩) = (true && true && (mayB rs d 15 && true && true && true) && (decide (0 ≤ num) && argsB rs l) && true)
 rw [call_eq hk]
 show (true && (true && true && true && true) && (!(decide (num < 0) && !false) && mayB rs d 15 && argsB rs l && (true || objB rs l))) = _
 rw [neg_num]
 cases mayB rs d 15 <;> cases argsB rs l <;> cases objB rs l <;> cases decide (0 ≤ num) <;> simp
theorem one_eq_24 {rs : List Int} (hk : KR rs) {ret : Int} (hret : 0 ≤ ret) (n : Nat) (d a b k num t : Int) (r : Bs) (l : List Int) : oneD rs ret n ⟨24, d, a, b, k, num, t, r, l⟩ = oneP rs ret n ⟨24, d, a, b, k, num, t, r, l⟩ := by
 show (true && (true && true && true && true) && callD rs ⟨24, d, a, b, k, num, t, r, l⟩) = (true && true && (mayB rs d 15 && true && true && true) && (decide (0 ≤ num) && argsB rs l && objB rs l) && true)
 rw [call_eq hk]
 show (true && (true && true && true && true) && (!(decide (num < 0) && !false) && mayB rs d 15 && argsB rs l && (false || objB rs l))) = _
 rw [neg_num]
 cases mayB rs d 15 <;> cases argsB rs l <;> cases objB rs l <;> cases decide (0 ≤ num) <;> simp
theorem one_eq_25 {rs : List Int} (hk : KR rs) {ret : Int} (hret : 0 ≤ ret) (n : Nat) (d a b k num t : Int) (r : Bs) (l : List Int) : oneD rs ret n ⟨25, d, a, b, k, num, t, r, l⟩ = oneP rs ret n ⟨25, d, a, b, k, num, t, r, l⟩ := by
 show (true && (true && true && true && true) && callD rs ⟨25, d, a, b, k, num, t, r, l⟩) = (true && true && (mayB rs d 15 && true && true && true) && (argsB rs l && objB rs l) && true)
 rw [call_eq hk]
 show (true && (true && true && true && true) && (!(decide (num < 0) && !true) && mayB rs d 15 && argsB rs l && (false || objB rs l))) = _
 cases mayB rs d 15 <;> cases argsB rs l <;> cases objB rs l <;> simp
theorem one_eq_26 {rs : List Int} (hk : KR rs) {ret : Int} (hret : 0 ≤ ret) (n : Nat) (d a b k num t : Int) (r : Bs) (l : List Int) : oneD rs ret n ⟨26, d, a, b, k, num, t, r, l⟩ = oneP rs ret n ⟨26, d, a, b, k, num, t, r, l⟩ := by
 show (true && (true && true && true && true) && callD rs ⟨26, d, a, b, k, num, t, r, l⟩) = (true && true && (mayB rs d 15 && true && true && true) && (decide (0 ≤ num) && argsB rs l) && true)
 rw [call_eq hk]
 show (true && (true && true && true && true) && (!(decide (num < 0) && !false) && mayB rs d 15 && argsB rs l && (true || objB rs l))) = _
 rw [neg_num]
 cases mayB rs d 15 <;> cases argsB rs l <;> cases objB rs l <;> cases decide (0 ≤ num) <;> simp
theorem one_eq_27 {rs : List Int} (hk : KR rs) {ret : Int} (hret : 0 ≤ ret) (n : Nat) (d a b k num t : Int) (r : Bs) (l : List Int) : oneD rs ret n ⟨27, d, a, b, k, num, t, r, l⟩ = oneP rs ret n ⟨27, d, a, b, k, num, t, r, l⟩ := by
 show (true && (true && true && true && true) && placeB n t) = (true && true && (true && true && true && true) && true && placeB n t)
 simp only [Bool.true_and, Bool.and_true]
theorem one_eq_28 {rs : List Int} (hk : KR rs) {ret : Int} (hret : 0 ≤ ret) (n : Nat) (d a b k num t : Int) (r : Bs) (l : List Int) : oneD rs ret n ⟨28, d, a, b, k, num, t, r, l⟩ = oneP rs ret n ⟨28, d, a, b, k, num, t, r, l⟩ := by
 show (true && (true && (kd rs a == 1) && (kd rs b == 1) && true) && (decide (0 ≤ num) && decide (num ≤ 5) && placeB n t)) = (true && true && (true && mayB rs a 2 && mayB rs b 2 && true) && (decide (0 ≤ num) && decide (num ≤ 5)) && placeB n t)
 rw [may2 hk, may2 hk]
 simp only [Bool.true_and, Bool.and_true]
 try ac_rfl
theorem one_eq_29 {rs : List Int} (hk : KR rs) {ret : Int} (hret : 0 ≤ ret) (n : Nat) (d a b k num t : Int) (r : Bs) (l : List Int) : oneD rs ret n ⟨29, d, a, b, k, num, t, r, l⟩ = oneP rs ret n ⟨29, d, a, b, k, num, t, r, l⟩ := by
 show (true && (true && (kd rs a == 3) && true && true) && (((num == 0) || (num == 1)) && ((b == -1) || (kd rs b == 3)) && placeB n t)) = (true && true && (true && mayB rs a 8 && mayB rs b 9 && true) && (decide (0 ≤ num) && decide (num ≤ 1)) && placeB n t)
 rw [may8 hk, may9 hk]
 rw [zero_one]
 simp only [Bool.true_and, Bool.and_true]
 try ac_rfl
theorem one_eq_30 {rs : List Int} (hk : KR rs) {ret : Int} (hret : 0 ≤ ret) (n : Nat) (d a b k num t : Int) (r : Bs) (l : List Int) : oneD rs ret n ⟨30, d, a, b, k, num, t, r, l⟩ = oneP rs ret n ⟨30, d, a, b, k, num, t, r, l⟩ := by
 show (true && (true && true && true && true) && (if ret = 0 then a == -1 else !(a == -1) && (kd rs a == ret))) = (true && true && (true && mayB rs a 15 && true && true) && (kd rs a == ret) && true)
 rw [may15 hk]
 by_cases h0 : ret = 0
 ·rw [if_pos h0, h0]
  by_cases e : a = -1
  ·subst e; rw [kd_m1]; rfl
  ·rw [beq_eq_false_iff_ne.2 e]
   by_cases e2 : kd rs a = 0
   ·rw [e2]; rfl
   ·rw [beq_eq_false_iff_ne.2 e2]; simp
 ·rw [if_neg h0]
  by_cases e : a = -1
  ·subst e; rw [kd_m1, beq_eq_false_iff_ne.2 (show ¬ (0 : Int) = ret by omega)]; rfl
  ·rw [beq_eq_false_iff_ne.2 e]
   by_cases e2 : kd rs a = ret
   ·rw [e2, decide_eq_true (show 0 < ret by omega)]; simp
   ·rw [beq_eq_false_iff_ne.2 e2]; simp
theorem one_eq_31 {rs : List Int} (hk : KR rs) {ret : Int} (hret : 0 ≤ ret) (n : Nat) (d a b k num t : Int) (r : Bs) (l : List Int) : oneD rs ret n ⟨31, d, a, b, k, num, t, r, l⟩ = oneP rs ret n ⟨31, d, a, b, k, num, t, r, l⟩ := by
 show (true && (true && (kd rs a == 3) && true && true) && true) = (true && true && (true && mayB rs a 8 && true && true) && true && true)
 rw [may8 hk]
 simp only [Bool.true_and, Bool.and_true]
theorem one_eq_32 {rs : List Int} (hk : KR rs) {ret : Int} (hret : 0 ≤ ret) (n : Nat) (d a b k num t : Int) (r : Bs) (l : List Int) : oneD rs ret n ⟨32, d, a, b, k, num, t, r, l⟩ = oneP rs ret n ⟨32, d, a, b, k, num, t, r, l⟩ := by
 show (true && ((kd rs d == 3) && true && true && true) && true) = (true && true && (mayB rs d 8 && true && true && true) && true && true)
 rw [may8 hk]
 simp only [Bool.true_and, Bool.and_true]
theorem one_eq_33 {rs : List Int} (hk : KR rs) {ret : Int} (hret : 0 ≤ ret) (n : Nat) (d a b k num t : Int) (r : Bs) (l : List Int) : oneD rs ret n ⟨33, d, a, b, k, num, t, r, l⟩ = oneP rs ret n ⟨33, d, a, b, k, num, t, r, l⟩ := by
 show (true && (true && true && true && true) && true) = (true && true && (true && true && true && true) && true && true)
 simp only [Bool.true_and, Bool.and_true]
theorem one_eq {rs : List Int} (hk : KR rs) {ret : Int} (hret : 0 ≤ ret) (n : Nat) (x : InI) : oneD rs ret n x = oneP rs ret n x := by
 obtain ⟨c, d, a, b, k, num, t, r, l⟩ := x
 by_cases hc : c < 1 ∨ 34 ≤ c
 ·have h1 : oneD rs ret n ⟨c, d, a, b, k, num, t, r, l⟩ = false := by
   unfold oneD
   rw [(out_of c hc).2.2.2.2.2.2.2.2]
   rfl
  have h2 : (decide (1 ≤ c) && decide (c ≤ 33)) = false := by rw [Bool.and_eq_false_iff, decide_eq_false_iff_not, decide_eq_false_iff_not]; omega
  have h3 : oneP rs ret n ⟨c, d, a, b, k, num, t, r, l⟩ = false := by
   unfold oneP
   dsimp only
   rw [h2]
   rfl
  rw [h1, h3]
 ·have hc' : c = 1 ∨ c = 2 ∨ c = 3 ∨ c = 4 ∨ c = 5 ∨ c = 6 ∨ c = 7 ∨ c = 8 ∨ c = 9 ∨ c = 10 ∨ c = 11 ∨ c = 12 ∨ c = 13 ∨ c = 14 ∨ c = 15 ∨ c = 16 ∨ c = 17 ∨ c = 18 ∨ c = 19 ∨ c = 20 ∨ c = 21 ∨ c = 22 ∨ c = 23 ∨ c = 24 ∨ c = 25 ∨ c = 26 ∨ c = 27 ∨ c = 28 ∨ c = 29 ∨ c = 30 ∨ c = 31 ∨ c = 32 ∨ c = 33 := by omega
  rcases hc' with rfl | rfl | rfl | rfl | rfl | rfl | rfl | rfl | rfl | rfl | rfl | rfl | rfl | rfl | rfl | rfl | rfl | rfl | rfl | rfl | rfl | rfl | rfl | rfl | rfl | rfl | rfl | rfl | rfl | rfl | rfl | rfl | rfl
  ·exact one_eq_1 hk hret n d a b k num t r l
  ·exact one_eq_2 hk hret n d a b k num t r l
  ·exact one_eq_3 hk hret n d a b k num t r l
  ·exact one_eq_4 hk hret n d a b k num t r l
  ·exact one_eq_5 hk hret n d a b k num t r l
  ·exact one_eq_6 hk hret n d a b k num t r l
  ·exact one_eq_7 hk hret n d a b k num t r l
  ·exact one_eq_8 hk hret n d a b k num t r l
  ·exact one_eq_9 hk hret n d a b k num t r l
  ·exact one_eq_10 hk hret n d a b k num t r l
  ·exact one_eq_11 hk hret n d a b k num t r l
  ·exact one_eq_12 hk hret n d a b k num t r l
  ·exact one_eq_13 hk hret n d a b k num t r l
  ·exact one_eq_14 hk hret n d a b k num t r l
  ·exact one_eq_15 hk hret n d a b k num t r l
  ·exact one_eq_16 hk hret n d a b k num t r l
  ·exact one_eq_17 hk hret n d a b k num t r l
  ·exact one_eq_18 hk hret n d a b k num t r l
  ·exact one_eq_19 hk hret n d a b k num t r l
  ·exact one_eq_20 hk hret n d a b k num t r l
  ·exact one_eq_21 hk hret n d a b k num t r l
  ·exact one_eq_22 hk hret n d a b k num t r l
  ·exact one_eq_23 hk hret n d a b k num t r l
  ·exact one_eq_24 hk hret n d a b k num t r l
  ·exact one_eq_25 hk hret n d a b k num t r l
  ·exact one_eq_26 hk hret n d a b k num t r l
  ·exact one_eq_27 hk hret n d a b k num t r l
  ·exact one_eq_28 hk hret n d a b k num t r l
  ·exact one_eq_29 hk hret n d a b k num t r l
  ·exact one_eq_30 hk hret n d a b k num t r l
  ·exact one_eq_31 hk hret n d a b k num t r l
  ·exact one_eq_32 hk hret n d a b k num t r l
  ·exact one_eq_33 hk hret n d a b k num t r l
end Go.Proofs.Ytbkeneadoccodaa
