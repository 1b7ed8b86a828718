/- When a function is well formed, in plain words. No program in this text. -/
import Derived.Test.YtifgkpfieapdjaaM3
import Derived.Test.YtifgkpfieapdjaaNuKinds
namespace Go.Proofs.Ytifgkpfieapdjaa
open Go.RowKit Go
set_option linter.unusedVariables false

def I64 (n : Int) : Prop := -9223372036854775808 ≤ n ∧ n ≤ 9223372036854775807
/-- A register's kind; 0: it is none. -/
def kd (rs : List Int) (r : Int) : Int := if 0 ≤ r then (rs[r.toNat]?).getD 0 else 0
def KR (rs : List Int) : Prop := ∀ k ∈ rs, k = 1 ∨ k = 2 ∨ k = 3
theorem kd_in {rs : List Int} {r : Int} (h0 : 0 ≤ r) (h1 : r < rs.length) : ∃ k, rs[r.toNat]? = some k ∧ kd rs r = k := by
  have : r.toNat < rs.length := by omega
  exact ⟨_, List.getElem?_eq_getElem this, by unfold kd; rw [if_pos h0, List.getElem?_eq_getElem this]; rfl⟩
theorem kd_out {rs : List Int} {r : Int} (h : r < 0 ∨ rs.length ≤ r) : kd rs r = 0 := by
  unfold kd
  split
  · rw [List.getElem?_eq_none_iff.2 (by omega)]
    rfl
  · rfl
theorem kd_kr {rs : List Int} (hk : KR rs) {r : Int} (h0 : 0 ≤ r) (h1 : r < rs.length) : kd rs r = 1 ∨ kd rs r = 2 ∨ kd rs r = 3 := by
  obtain ⟨k, h2, h3⟩ := kd_in h0 h1
  rw [h3]
  exact hk k (List.mem_of_getElem? h2)
theorem kd_ways {rs : List Int} (hk : KR rs) (r : Int) : (kd rs r = 0 ∧ (r < 0 ∨ rs.length ≤ r)) ∨ ((kd rs r = 1 ∨ kd rs r = 2 ∨ kd rs r = 3) ∧ 0 ≤ r ∧ r < rs.length) := by
  by_cases h : 0 ≤ r ∧ r < rs.length
  · exact .inr ⟨kd_kr hk h.1 h.2, h⟩
  · exact .inl ⟨kd_out (by omega), by omega⟩
/-- May a register stand where the set f is asked? -/
def mayB (rs : List Int) (r f : Int) : Bool := f == 0 || (if r = -1 then hasB f 0 else decide (0 ≤ r) && decide (r < rs.length) && hasB f (kd rs r))
def kindsB (rs : List Int) (x : InI) : Bool := mayB rs x.dst (fdT x.op).1 && mayB rs x.a (fdT x.op).2.1 && mayB rs x.b (fdT x.op).2.2.1 && mayB rs x.c (fdT x.op).2.2.2
def inB (rs : List Int) (r : Int) : Bool := decide (0 ≤ r) && decide (r < rs.length)
def argsB (rs : List Int) (l : List Int) : Bool := decide (l.length ≤ 21) && l.all (inB rs)
def objB (rs : List Int) (l : List Int) : Bool := match l with | [] => false | r :: _ => kd rs r == 3
def restB (rs : List Int) (ret : Int) (x : InI) : Bool :=
  if x.op = 1 then (kd rs x.dst == 2 || decide (-2147483648 ≤ x.num) && decide (x.num < 2147483648))
  else if x.op = 4 then kd rs x.dst == kd rs x.a
  else if x.op = 5 then decide (Nu.knd x.num = (kd rs x.a, kd rs x.b, kd rs x.dst))
  else if x.op = 6 then decide (Nu.knd x.num = (kd rs x.a, 0, kd rs x.dst))
  else if x.op ∈ ([12, 21, 22] : List Int) then typeB x.ref
  else if x.op ∈ ([16, 17] : List Int) then decide (0 ≤ x.num)
  else if x.op ∈ ([23, 26] : List Int) then decide (0 ≤ x.num) && argsB rs x.args
  else if x.op = 24 then decide (0 ≤ x.num) && argsB rs x.args && objB rs x.args
  else if x.op = 25 then argsB rs x.args && objB rs x.args
  else if x.op = 28 then decide (0 ≤ x.num) && decide (x.num ≤ 5)
  else if x.op = 29 then decide (0 ≤ x.num) && decide (x.num ≤ 1)
  else if x.op = 30 then kd rs x.a == ret
  else true
def isKindB (k : Int) : Bool := decide (1 ≤ k) && decide (k ≤ 3)
def parB (rs ps : List Int) (i : Nat) : Bool := match ps[i]? with | none => true | some r => inB rs r && !decide (r ∈ ps.take i)
def regsB (f : FuI) : Bool := decide (f.regs.length ≤ 20000) && decide (f.params.length ≤ 21) && (isKindB f.ret || f.ret == 0) && f.regs.all isKindB && (List.range f.params.length).all (parB f.regs f.params)
def opAt (c : List InI) (i : Int) : Int := if 0 ≤ i then ((c[i.toNat]?).map (·.op)).getD 0 else 0
def oneB (f : FuI) (i : Nat) (x : InI) : Bool :=
  decide (1 ≤ x.op) && decide (x.op ≤ 33) && kindsB f.regs x && restB f.regs f.ret x
  && (!leadsB x.op || (decide (0 ≤ x.too) && decide (x.too < f.code.length) && !(opAt f.code x.too == 32)))
  && (!(x.op == 32) || (!(i == 0) && endsB (opAt f.code ((i : Int) - 1))))
def codeB (f : FuI) : Bool := decide (1 ≤ f.code.length) && decide (f.code.length ≤ 20000) && endsB (opAt f.code ((f.code.length : Int) - 1)) && (List.range f.code.length).all fun i => match f.code[i]? with | none => true | some x => oneB f i x
def rowB (f : FuI) (r : RwI) : Bool := decide (0 ≤ r.fr) && decide (r.fr < r.too) && decide (r.too ≤ f.code.length) && decide (0 ≤ r.at_) && decide (r.at_ < f.code.length) && opAt f.code r.at_ == 32
def rowsB (f : FuI) : Bool := f.rows.all (rowB f)
def checkB (f : FuI) : Bool := regsB f && codeB f && rowsB f
def chkN (f : FuI) : Int := if checkB f then 0 else 80
/-- A test that all meet, told step by step. -/
theorem all_step {α : Type} {p : α → Bool} {l : List α} {k : Nat} {x : α} (hx : l[k]? = some x) (h : (l.take k).all p = true) : (l.take (k + 1)).all p = p x := by
  rw [List.take_add_one, hx, List.all_append, h]
  simp
theorem all_bad {α : Type} {p : α → Bool} {l : List α} {k : Nat} {x : α} (hx : l[k]? = some x) (h : p x = false) : l.all p = false := by
  rw [List.all_eq_false]
  exact ⟨x, List.mem_of_getElem? hx, by simp [h]⟩
theorem range_get {n k : Nat} (h : k < n) : (List.range n)[k]? = some k := by rw [List.getElem?_range h]
end Go.Proofs.Ytifgkpfieapdjaa
