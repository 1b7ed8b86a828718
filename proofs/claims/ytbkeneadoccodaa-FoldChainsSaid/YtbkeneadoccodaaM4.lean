/- Texts of this claim, joined: CNuKinds, CInsChk0. -/
import Derived.Test.YtbkeneadoccodaaProg
import Derived.WalkKit
import Derived.Outline
import Derived.WalkLawsBesides
import Derived.Lib.Hide
import Derived.OpenShut
import Derived.Test.YtbkeneadoccodaaM3
/- Plain facts about whole numbers, without any program: what the bit operations, wraps and shifts of package num come to. -/
namespace Go.Proofs.Ytbkeneadoccodaa.Nu
open Go.RowKit
theorem and_mask (k : IntKind) (n : Int) (m : Nat) (M : Int) (hM : (BitVec.ofInt k.bits M).toNat = 2 ^ m - 1) (hk : ∀ x : Int, 0 ≤ x → x < 2 ^ m → k.wrap x = x) (hm : m ≤ k.bits) : bits .and k n M = n % 2 ^ m := by
  have key : (BitVec.ofInt k.bits n &&& BitVec.ofInt k.bits M).toNat = (n % ((2 ^ k.bits : Nat) : Int)).toNat % 2 ^ m := by
    rw [BitVec.toNat_and, BitVec.toNat_ofInt, hM, Nat.and_two_pow_sub_one_eq_mod]
  show k.wrap ((BitVec.ofInt k.bits n &&& BitVec.ofInt k.bits M).toNat : Nat) = n % 2 ^ m
  have h2 : (((n % ((2 ^ k.bits : Nat) : Int)).toNat % 2 ^ m : Nat) : Int) = n % 2 ^ m := by
    have hpos : (0 : Int) < ((2 ^ k.bits : Nat) : Int) := by exact_mod_cast Nat.two_pow_pos _
    rw [Int.natCast_emod, Int.toNat_of_nonneg (Int.emod_nonneg _ (by omega))]
    have hd : ((2 ^ m : Nat) : Int) ∣ ((2 ^ k.bits : Nat) : Int) := by
      exact_mod_cast Nat.pow_dvd_pow 2 hm
    rw [Int.emod_emod_of_dvd _ hd]
    simp
  rw [key, h2, hk]
  · exact Int.emod_nonneg _ (by have := Nat.two_pow_pos m; have : ((2 ^ m : Nat) : Int) = 2 ^ m := by simp
                                omega)
  · exact Int.emod_lt_of_pos _ (by have := Nat.two_pow_pos m; have : ((2 ^ m : Nat) : Int) = 2 ^ m := by simp
                                   omega)
theorem and1 (n : Int) : bits .and .i64 n 1 = n % 2 := and_mask .i64 n 1 1 (by decide) (by intro x h0 h1; rw [IntKind.wrap_i64]; omega) (by decide)
theorem odd_any (c : Int) (w : World) : Calls Try.prog 95 #[.int .i64 c] w fun e w' => e = .returned (.bool (c % 2 == 1)) ∧ w = w' := by
 have hm := and1 c
 go_enter Try.func95, Try.ntmps95
 go_wp2
 go_ret
 exact ⟨rfl, rfl⟩
def knd (c : Int) : Int × Int × Int :=
 if c = 121 ∨ c = 123 ∨ c = 125 then (2, 1, 2)
 else if (96 ≤ c ∧ c ≤ 113 ∧ c % 4 < 2) ∨ (120 ≤ c ∧ c ≤ 131) then (if c % 2 = 0 then (1, 1, 1) else (2, 2, 2))
 else if c = 148 then (2, 2, 1) else if c = 116 ∨ (145 ≤ c ∧ c ≤ 147) then (1, 0, 1) else if c = 117 then (2, 0, 2) else if c = 133 then (1, 0, 2) else if c = 136 then (2, 0, 1) else (0, 0, 0)
theorem knd_none (c : Int) (h : c ≠ 96 ∧ c ≠ 97 ∧ c ≠ 100 ∧ c ≠ 101 ∧ c ≠ 104 ∧ c ≠ 105 ∧ c ≠ 108 ∧ c ≠ 109 ∧ c ≠ 112 ∧ c ≠ 113 ∧ c ≠ 116 ∧ c ≠ 117 ∧ c ≠ 120 ∧ c ≠ 121 ∧ c ≠ 122 ∧ c ≠ 123 ∧ c ≠ 124 ∧ c ≠ 125 ∧ c ≠ 126 ∧ c ≠ 127 ∧ c ≠ 128 ∧ c ≠ 129 ∧ c ≠ 130 ∧ c ≠ 131 ∧ c ≠ 133 ∧ c ≠ 136 ∧ c ≠ 145 ∧ c ≠ 146 ∧ c ≠ 147 ∧ c ≠ 148) : knd c = (0, 0, 0) := by
 unfold knd
 rw [if_neg (by omega), if_neg (by omega), if_neg (by omega), if_neg (by omega), if_neg (by omega), if_neg (by omega), if_neg (by omega)]
theorem knd_cases (c : Int) : c = 96 ∨ c = 97 ∨ c = 100 ∨ c = 101 ∨ c = 104 ∨ c = 105 ∨ c = 108 ∨ c = 109 ∨ c = 112 ∨ c = 113 ∨ c = 116 ∨ c = 117 ∨ c = 120 ∨ c = 121 ∨ c = 122 ∨ c = 123 ∨ c = 124 ∨ c = 125 ∨ c = 126 ∨ c = 127 ∨ c = 128 ∨ c = 129 ∨ c = 130 ∨ c = 131 ∨ c = 133 ∨ c = 136 ∨ c = 145 ∨ c = 146 ∨ c = 147 ∨ c = 148 ∨ (c ≠ 96 ∧ c ≠ 97 ∧ c ≠ 100 ∧ c ≠ 101 ∧ c ≠ 104 ∧ c ≠ 105 ∧ c ≠ 108 ∧ c ≠ 109 ∧ c ≠ 112 ∧ c ≠ 113 ∧ c ≠ 116 ∧ c ≠ 117 ∧ c ≠ 120 ∧ c ≠ 121 ∧ c ≠ 122 ∧ c ≠ 123 ∧ c ≠ 124 ∧ c ≠ 125 ∧ c ≠ 126 ∧ c ≠ 127 ∧ c ≠ 128 ∧ c ≠ 129 ∧ c ≠ 130 ∧ c ≠ 131 ∧ c ≠ 133 ∧ c ≠ 136 ∧ c ≠ 145 ∧ c ≠ 146 ∧ c ≠ 147 ∧ c ≠ 148) := by omega
theorem computes_any (c : Int) (w : World) : Calls Try.prog 130 #[.int .i64 c] w fun e w' => e = .returned (.bool (decide (c = 96 ∨ c = 100 ∨ c = 104 ∨ c = 108 ∨ c = 112 ∨ c = 120 ∨ c = 122 ∨ c = 124 ∨ c = 126 ∨ c = 128 ∨ c = 130))) ∧ w = w' := by
  have hc : c = 96 ∨ c = 100 ∨ c = 104 ∨ c = 108 ∨ c = 112 ∨ c = 120 ∨ c = 122 ∨ c = 124 ∨ c = 126 ∨ c = 128 ∨ c = 130 ∨ ¬ (c = 96 ∨ c = 100 ∨ c = 104 ∨ c = 108 ∨ c = 112 ∨ c = 120 ∨ c = 122 ∨ c = 124 ∨ c = 126 ∨ c = 128 ∨ c = 130) := by omega
  rcases hc with rfl | rfl | rfl | rfl | rfl | rfl | rfl | rfl | rfl | rfl | rfl | hn
  all_goals first
    | (go_enter Try.func130, Try.ntmps130; go_wp2; go_ret; exact ⟨rfl, rfl⟩)
    | (have HN := Lib.hid (decide_eq_false hn)
       rw [HN.out]
       have g : c ≠ 96 ∧ c ≠ 100 ∧ c ≠ 104 ∧ c ≠ 108 ∧ c ≠ 112 ∧ c ≠ 120 ∧ c ≠ 122 ∧ c ≠ 124 ∧ c ≠ 126 ∧ c ≠ 128 ∧ c ≠ 130 := by omega
       clear hn
       obtain ⟨_, _, _, _, _, _, _, _, _, _, _⟩ := g
       go_enter Try.func130, Try.ntmps130
       go_wp2
       go_ret
       exact ⟨rfl, rfl⟩)
theorem computes_no (c : Int) (hn : ¬ (c = 96 ∨ c = 100 ∨ c = 104 ∨ c = 108 ∨ c = 112 ∨ c = 120 ∨ c = 122 ∨ c = 124 ∨ c = 126 ∨ c = 128 ∨ c = 130)) (w : World) : Calls Try.prog 130 #[.int .i64 c] w fun e w' => e = .returned (.bool false) ∧ w = w' := by
 have h := computes_any c w
 rw [decide_eq_false hn] at h
 exact h
theorem odd_yes (c : Int) (h : c % 2 = 1) (w : World) : Calls Try.prog 95 #[.int .i64 c] w fun e w' => e = .returned (.bool true) ∧ w = w' := by
 have k := odd_any c w
 rw [show (c % 2 == 1) = true from by rw [beq_iff_eq]; exact h] at k
 exact k
theorem odd_no (c : Int) (h : ¬ c % 2 = 1) (w : World) : Calls Try.prog 95 #[.int .i64 c] w fun e w' => e = .returned (.bool false) ∧ w = w' := by
 have k := odd_any c w
 rw [show (c % 2 == 1) = false from by rw [beq_eq_false_iff_ne]; exact h] at k
 exact k
set_option maxHeartbeats 4000000 in
theorem kinds_any (c : Int) (hc : -9223372036854775808 ≤ c ∧ c ≤ 9223372036854775807) (w : World) : Calls Try.prog 122 #[.int .i64 c] w fun e w' => e = .returned (.tuple #[.int .i64 (knd c).1, .int .i64 (knd c).2.1, .int .i64 (knd c).2.2]) ∧ w = w' := by
  rcases knd_cases c with rfl | rfl | rfl | rfl | rfl | rfl | rfl | rfl | rfl | rfl | rfl | rfl | rfl | rfl | rfl | rfl | rfl | rfl | rfl | rfl | rfl | rfl | rfl | rfl | rfl | rfl | rfl | rfl | rfl | rfl | hn
  all_goals first
    | (go_enter Try.func122, Try.ntmps122; go_wp2_with (first | (go_at_call 95; refine (odd_any _ _).mono ?_; rintro e w' ⟨rfl, rfl⟩) | (go_at_call 130; refine (computes_any _ _).mono ?_; rintro e w' ⟨rfl, rfl⟩)); go_ret3; exact ⟨rfl, rfl⟩)
    | (have HN := Lib.hid (knd_none c hn)
       rw [HN.out]
       have hk : c ≠ 116 ∧ c ≠ 117 ∧ c ≠ 133 ∧ c ≠ 136 ∧ c ≠ 145 ∧ c ≠ 146 ∧ c ≠ 147 ∧ c ≠ 148 ∧ c ≠ 121 ∧ c ≠ 123 ∧ c ≠ 125 := by omega
       by_cases ho : c % 2 = 1
       · have hn1 : ¬ (c - 1 = 96 ∨ c - 1 = 100 ∨ c - 1 = 104 ∨ c - 1 = 108 ∨ c - 1 = 112 ∨ c - 1 = 120 ∨ c - 1 = 122 ∨ c - 1 = 124 ∨ c - 1 = 126 ∨ c - 1 = 128 ∨ c - 1 = 130) := by omega
         have hn0 : ¬ (c = 96 ∨ c = 100 ∨ c = 104 ∨ c = 108 ∨ c = 112 ∨ c = 120 ∨ c = 122 ∨ c = 124 ∨ c = 126 ∨ c = 128 ∨ c = 130) := by omega
         have H1 := Lib.hid hn1
         have H0 := Lib.hid hn0
         clear hn hn1 hn0
         obtain ⟨_, _, _, _, _, _, _, _, _, _, _⟩ := hk
         go_enter Try.func122, Try.ntmps122
         go_wp2_with (first | (go_at_call 95; refine (odd_yes _ ho _).mono ?_; rintro e w' ⟨rfl, rfl⟩) | (go_at_call 130; (with_reducible refine (computes_no (c - 1) H1.out _).mono ?_); rintro e w' ⟨rfl, rfl⟩) | (go_at_call 130; (with_reducible refine (computes_no c H0.out _).mono ?_); rintro e w' ⟨rfl, rfl⟩))
         go_ret3
         exact ⟨rfl, rfl⟩
       · have hn0 : ¬ (c = 96 ∨ c = 100 ∨ c = 104 ∨ c = 108 ∨ c = 112 ∨ c = 120 ∨ c = 122 ∨ c = 124 ∨ c = 126 ∨ c = 128 ∨ c = 130) := by omega
         have H0 := Lib.hid hn0
         clear hn hn0
         obtain ⟨_, _, _, _, _, _, _, _, _, _, _⟩ := hk
         go_enter Try.func122, Try.ntmps122
         go_wp2_with (first | (go_at_call 95; refine (odd_no _ ho _).mono ?_; rintro e w' ⟨rfl, rfl⟩) | (go_at_call 130; refine (computes_no _ H0.out _).mono ?_; rintro e w' ⟨rfl, rfl⟩))
         go_ret3
         exact ⟨rfl, rfl⟩)
end Go.Proofs.Ytbkeneadoccodaa.Nu
/- When a function is well formed, in plain words. No program in this text. -/
namespace Go.Proofs.Ytbkeneadoccodaa
open Go.RowKit Go
set_option linter.unusedVariables false
def I64 (n : Int) : Prop := -9223372036854775808 ≤ n ∧ n ≤ 9223372036854775807
def kd (rs : List Int) (r : Int) : Int := if 0 ≤ r then (rs[r.toNat]?).getD 0 else 0
def KR (rs : List Int) : Prop := ∀ k ∈ rs, k = 1 ∨ k = 2 ∨ k = 3
theorem kd_in {rs : List Int} {r : Int} (h0 : 0 ≤ r) (h1 : r < rs.length) : ∃ k, rs[r.toNat]? = some k ∧ kd rs r = k := by
 have : r.toNat < rs.length := by omega
 exact ⟨_, List.getElem?_eq_getElem this, by unfold kd; rw [if_pos h0, List.getElem?_eq_getElem this]; rfl⟩
theorem kd_out {rs : List Int} {r : Int} (h : r < 0 ∨ rs.length ≤ r) : kd rs r = 0 := by
 unfold kd
 split
 ·rw [List.getElem?_eq_none_iff.2 (by omega)]
  rfl
 ·rfl
theorem kd_kr {rs : List Int} (hk : KR rs) {r : Int} (h0 : 0 ≤ r) (h1 : r < rs.length) : kd rs r = 1 ∨ kd rs r = 2 ∨ kd rs r = 3 := by
 obtain ⟨k, h2, h3⟩ := kd_in h0 h1
 rw [h3]
 exact hk k (List.mem_of_getElem? h2)
theorem kd_ways {rs : List Int} (hk : KR rs) (r : Int) : (kd rs r = 0 ∧ (r < 0 ∨ rs.length ≤ r)) ∨ ((kd rs r = 1 ∨ kd rs r = 2 ∨ kd rs r = 3) ∧ 0 ≤ r ∧ r < rs.length) := by
 by_cases h : 0 ≤ r ∧ r < rs.length
 ·exact .inr ⟨kd_kr hk h.1 h.2, h⟩
 ·exact .inl ⟨kd_out (by omega), by omega⟩
def mayB (rs : List Int) (r f : Int) : Bool := f == 0 || (if r = -1 then hasB f 0 else decide (0 ≤ r) && decide (r < rs.length) && hasB f (kd rs r))
def kindsB (rs : List Int) (x : InI) : Bool := mayB rs x.dst (fdT x.op).1 && mayB rs x.a (fdT x.op).2.1 && mayB rs x.b (fdT x.op).2.2.1 && mayB rs x.c (fdT x.op).2.2.2
def inB (rs : List Int) (r : Int) : Bool := decide (0 ≤ r) && decide (r < rs.length)
def argsB (rs : List Int) (l : List Int) : Bool := decide (l.length ≤ 21) && l.all (inB rs)
def objB (rs : List Int) (l : List Int) : Bool := match l with | [] => false | r :: _ => kd rs r == 3
def restB (rs : List Int) (ret : Int) (x : InI) : Bool :=
 if x.op = 1 then (kd rs x.dst == 2 || decide (-2147483648 ≤ x.num) && decide (x.num < 2147483648))
 else if x.op = 4 then kd rs x.dst == kd rs x.a
 else if x.op = 5 then decide (Nu.knd x.num = (kd rs x.a, kd rs x.b, kd rs x.dst))
 else if x.op = 6 then decide (Nu.knd x.num = (kd rs x.a, 0, kd rs x.dst))
 else if x.op ∈ ([12, 21, 22] : List Int) then typeB x.ref
 else if x.op ∈ ([16, 17] : List Int) then decide (0 ≤ x.num)
 else if x.op ∈ ([23, 26] : List Int) then decide (0 ≤ x.num) && argsB rs x.args
 else if x.op = 24 then decide (0 ≤ x.num) && argsB rs x.args && objB rs x.args
 else if x.op = 25 then argsB rs x.args && objB rs x.args
 else if x.op = 28 then decide (0 ≤ x.num) && decide (x.num ≤ 5)
 else if x.op = 29 then decide (0 ≤ x.num) && decide (x.num ≤ 1)
 else if x.op = 30 then kd rs x.a == ret
 else true
def isKindB (k : Int) : Bool := decide (1 ≤ k) && decide (k ≤ 3)
def parB (rs ps : List Int) (i : Nat) : Bool := match ps[i]? with | none => true | some r => inB rs r && !decide (r ∈ ps.take i)
def regsB (f : FuI) : Bool := decide (f.regs.length ≤ 20000) && decide (f.params.length ≤ 21) && (isKindB f.ret || f.ret == 0) && f.regs.all isKindB && (List.range f.params.length).all (parB f.regs f.params)
def opAt (c : List InI) (i : Int) : Int := if 0 ≤ i then ((c[i.toNat]?).map (·.op)).getD 0 else 0
def oneB (f : FuI) (i : Nat) (x : InI) : Bool :=
 decide (1 ≤ x.op) && decide (x.op ≤ 33) && kindsB f.regs x && restB f.regs f.ret x
 && (!leadsB x.op || (decide (0 ≤ x.too) && decide (x.too < f.code.length) && !(opAt f.code x.too == 32)))
 && (!(x.op == 32) || (!(i == 0) && endsB (opAt f.code ((i : Int) - 1))))
def codeB (f : FuI) : Bool := decide (1 ≤ f.code.length) && decide (f.code.length ≤ 20000) && endsB (opAt f.code ((f.code.length : Int) - 1)) && (List.range f.code.length).all fun i => match f.code[i]? with | none => true | some x => oneB f i x
def rowB (f : FuI) (r : RwI) : Bool := decide (0 ≤ r.fr) && decide (r.fr < r.too) && decide (r.too ≤ f.code.length) && decide (0 ≤ r.at_) && decide (r.at_ < f.code.length) && opAt f.code r.at_ == 32
def rowsB (f : FuI) : Bool := f.rows.all (rowB f)
def checkB (f : FuI) : Bool := regsB f && codeB f && rowsB f
def chkN (f : FuI) : Int := if checkB f then 0 else 80
theorem all_step {α : Type} {p : α → Bool} {l : List α} {k : Nat} {x : α} (hx : l[k]? = some x) (h : (l.take k).all p = true) : (l.take (k + 1)).all p = p x := by
 rw [List.take_add_one, hx, List.all_append, h]
 simp
theorem all_bad {α : Type} {p : α → Bool} {l : List α} {k : Nat} {x : α} (hx : l[k]? = some x) (h : p x = false) : l.all p = false := by
 rw [List.all_eq_false]
 exact ⟨x, List.mem_of_getElem? hx, by simp [h]⟩
theorem range_get {n k : Nat} (h : k < n) : (List.range n)[k]? = some k := by rw [List.getElem?_range h]
end Go.Proofs.Ytbkeneadoccodaa
