/- Texts of this claim, joined: PoolFacts, FileMath, FileMem. -/
import Derived.Test.YtgihfcimngogfaaGreatM1
import Derived.Laws.AppendOwn
import Derived.OwnWalk
namespace Go.Proofs.YtgihfcimngogfaaGreat
open Go Go.RowKit
set_option linter.unusedVariables false
theorem rdEnts_ok (P : Ent → Prop) (hP : ∀ s, entX s = 0 → P (entE s)) : ∀ (k : Nat) (s : St) (acc : List Ent), (rdEnts k s acc).1 = 0 → ∃ t, (rdEnts k s acc).2.1 = acc ++ t ∧ t.length = k ∧ ∀ x, x ∈ t → P x
 | 0, s, acc, _ => ⟨[], by simp [rdEnts], rfl, by simp⟩
 | k + 1, s, acc, h => by
  by_cases hx : entX s = 0
  ·rw [rdEnts_on k s acc hx] at h ⊢
   obtain ⟨t, h1, h2, h3⟩ := rdEnts_ok P hP k (entS s) _ h
   refine ⟨entE s :: t, by rw [h1]; simp, by simp [h2], fun x hm => ?_⟩
   rcases List.mem_cons.1 hm with rfl | hm
   ·exact hP s hx
   ·exact h3 x hm
  ·rw [rdEnts_no k s acc hx] at h
   exact absurd h hx
theorem entX_ok (s : St) (h : entX s = 0) : knownK (numN s 1) = true ∧ (entS s).2 = false := by
 unfold entX at h
 unfold entS
 cases hb : (bodyS (numN s 1) (numS s 1)).2
 ·rw [hb] at h
  cases hk : knownK (numN s 1)
  ·rw [hk] at h; simp at h
  ·exact ⟨rfl, rfl⟩
 ·rw [hb] at h; simp at h
theorem takeL_short (s : St) (n : Nat) : (takeL s n).length ≤ n := by
 have := takeL_len s n
 omega
theorem bodyE_kind (k : Nat) (s : St) : (bodyE k s).kind = k := by
 unfold bodyE
 split
 ·rename_i h; exact h.symm
 split
 ·rename_i h; exact h.symm
 split
 ·rename_i h; exact h.symm
 split
 ·rfl
 split <;> rfl
theorem bodyE_text (k : Nat) (s : St) : (bodyE k s).text.length < 65536 := by
 unfold bodyE
 split
 ·have h1 := takeL_short (numS s 2) (numN s 2)
  have h2 := num2_lt s
  show (takeL (numS s 2) (numN s 2)).length < _
  omega
 split
 ·exact Nat.zero_lt_succ _
 split
 ·exact Nat.zero_lt_succ _
 split
 ·exact Nat.zero_lt_succ _
 split <;> exact Nat.zero_lt_succ _
def GoodE (x : Ent) : Prop := knownK x.kind = true ∧ x.text.length < 65536
theorem entE_good (s : St) (h : entX s = 0) : GoodE (entE s) := by
 unfold entE GoodE
 rw [bodyE_kind]
 exact ⟨(entX_ok s h).1, bodyE_text _ _⟩
theorem rdHead_ok (s : St) (h : (rdHead s).1 = 0) : ∃ t, (rdHead s).2.1 = Ent.zero :: t ∧ t.length + 1 ≤ 1000 ∧ t.length + 1 = numN s 2 ∧ ∀ x, x ∈ t → GoodE x := by
 unfold rdHead at h ⊢
 cases hb : (numS s 2).2
 ·rw [hb] at h
  simp only [Bool.false_eq_true, if_false] at h ⊢
  by_cases hn : numN s 2 = 0 ∨ 1000 < numN s 2
  ·rw [if_pos hn] at h; simp at h
  ·rw [if_neg hn] at h ⊢
   obtain ⟨t, h1, h2, h3⟩ := rdEnts_ok GoodE entE_good _ _ _ h
   exact ⟨t, h1, by omega, by omega, h3⟩
 ·rw [hb] at h; simp at h
end Go.Proofs.YtgihfcimngogfaaGreat
namespace Go.Proofs.YtgihfcimngogfaaGreat
open Go Go.RowKit
set_option linter.unusedVariables false
inductive Pr (α : Type) where
 | ok (a : α) (r : Bs)
 | er (x : Nat)
def Pr.then {α β : Type} : Pr α → (α → Bs → Pr β) → Pr β
 | .ok a r, k => k a r
 | .er x, _ => .er x
structure Fld where
 flags : Nat
 name : Bs
 desc : Bs
structure Rw where
 fr : Nat
 to : Nat
 at_ : Nat
 cls : Bs
structure Frm where
 pc : Nat
 locals : List Bs
 stack : List Bs
structure Met where
 flags : Nat
 name : Bs
 desc : Bs
 stack : Nat
 locals : Nat
 code : Bs
 rows : List Rw
 frames : List Frm
structure Cls where
 flags : Nat
 name : Bs
 super : Bs
 ifaces : List Bs
 pool : List Con
 fields : List Fld
 methods : List Met
def numP (n : Nat) (s : Bs) : Pr Nat := if s.length < n then .er 11 else .ok (beB (s.take n)) (s.drop n)
def cntP (n most : Nat) (s : Bs) : Pr Nat := (numP n s).then fun k r => if most < k then .er 2 else .ok k r
def kAt (L : List Con) (i k : Nat) : Option Con := match L[i]? with
 | some c => if c.kind = k then some c else none
 | none => none
def atP (L : List Con) (i k : Nat) (s : Bs) : Pr Con := match kAt L i k with
 | some c => .ok c s
 | none => .er 12
def conP (L : List Con) (k : Nat) (s : Bs) : Pr Con := (numP 2 s).then fun i r => atP L i k r
def flatP (x : Nat) (t : Bs) (s : Bs) : Pr Bs := if t.head? = some 91 then .er x else .ok t s
def clsP (L : List Con) (s : Bs) : Pr Bs := (conP L 7 s).then fun c r => flatP 20 c.text r
def flgP (bits : Nat) (s : Bs) : Pr Nat := (numP 2 s).then fun f r => if f &&& bits = f then .ok f r else .er 22
def memP (L : List Con) (s : Bs) : Pr (Bs × Bs) := (conP L 1 s).then fun a r => (conP L 1 r).then fun b r2 => .ok (a.text, b.text) r2
def fldJ (cf f : Nat) (m : Bs × Bs) (s : Bs) : Pr Fld :=
 if nameB m.1 false = false then .er 20 else if typeB m.2 = false then .er 21 else if cf &&& 512 ≠ 0 ∧ f = 0 then .er 22 else .ok ⟨f, m.1, m.2⟩ s
def fldP (L : List Con) (cf : Nat) (s : Bs) : Pr Fld := (flgP 8 s).then fun f r => (memP L r).then fun m r2 => fldJ cf f m r2
def manyP {α : Type} (p : Bs → Pr α) : Nat → Bs → List α → Pr (List α)
 | 0, s, acc => .ok acc s
 | n + 1, s, acc => (p s).then fun a r => manyP p n r (acc ++ [a])
def cghP (L : List Con) (s : Bs) : Pr Bs := (numP 2 s).then fun i r => if i = 0 then .ok [] r else (atP L i 7 r).then fun c r2 => flatP 12 c.text r2
def rowP (L : List Con) (s : Bs) : Pr Rw := (numP 2 s).then fun a r => (numP 2 r).then fun b r2 => (numP 2 r2).then fun c r3 => (cghP L r3).then fun t r4 => .ok ⟨a, b, c, t⟩ r4
def typP (L : List Con) (s : Bs) : Pr Bs := (numP 1 s).then fun k r =>
 if k = 0 then .ok [] r else if k = 1 then .ok [73] r else if k = 2 then .ok [74] r else if k = 3 then .ok [78] r
 else if k = 4 then (conP L 7 r).then fun c r2 => .ok (ofL c.text) r2 else .er 60
def tysP (L : List Con) (most : Nat) (s : Bs) : Pr (List Bs) := (cntP 1 most s).then fun n r => manyP (typP L) n r []
def frmP (L : List Con) (s : Bs) : Pr Frm := (numP 2 s).then fun pc r => (tysP L 40 r).then fun a r2 => (tysP L 20 r2).then fun b r3 => .ok ⟨pc, a, b⟩ r3
def bytP (n : Nat) (s : Bs) : Pr Bs := if s.length < n then .er 11 else .ok (s.take n) (s.drop n)
def bdyP (L : List Con) (f : Nat) (m : Bs × Bs) (s : Bs) : Pr Met :=
 (cntP 2 20 s).then fun st r => (cntP 2 40 r).then fun lo r2 => (cntP 2 4000 r2).then fun n r3 => (bytP n r3).then fun code r4 =>
 (cntP 2 60 r4).then fun k r5 => (manyP (rowP L) k r5 []).then fun rows r6 => (cntP 2 4000 r6).then fun q r7 => (manyP (frmP L) q r7 []).then fun frames r8 =>
 .ok ⟨f, m.1, m.2, st, lo, code, rows, frames⟩ r8
def metFit (cf f : Nat) : Bool := if f &&& 1024 = 0 then decide (cf &&& 512 = 0) else decide (cf &&& 1024 ≠ 0) && decide (f &&& 8 = 0)
def metJ (L : List Con) (cf f : Nat) (m : Bs × Bs) (s : Bs) : Pr Met :=
 if nameB m.1 true = false then .er 20 else if (metB m.2).isSome = false then .er 21 else if metFit cf f = false then .er 22
 else if f &&& 1024 = 0 then bdyP L f m s else .ok ⟨f, m.1, m.2, 0, 0, [], [], []⟩ s
def metP (L : List Con) (cf : Nat) (s : Bs) : Pr Met := (flgP 1032 s).then fun f r => (memP L r).then fun m r2 => metJ L cf f m r2
def behP (L : List Con) (s : Bs) : Pr Cls :=
 (flgP 1536 s).then fun cf r => if cf = 512 then .er 22 else
 (clsP L r).then fun nm r2 => (clsP L r2).then fun sp r3 =>
 (cntP 2 8 r3).then fun a r4 => (manyP (clsP L) a r4 []).then fun is r5 =>
 (cntP 2 60 r5).then fun b r6 => (manyP (fldP L cf) b r6 []).then fun fs r7 =>
 (cntP 2 60 r7).then fun c r8 => (manyP (metP L cf) c r8 []).then fun ms r9 =>
 .ok ⟨cf, nm, sp, is, L, fs, ms⟩ r9
def fKeys (c : Cls) : List (Bs × Bs) := c.fields.map fun f => (f.name, [])
def mKeys (c : Cls) : List (Bs × Bs) := c.methods.map fun m => (m.name, m.desc)
def twiceB : List (Bs × Bs) → Bool
 | [] => false
 | k :: r => r.contains k || twiceB r
def endC (c : Cls) (s : Bs) : Pr Cls := if s ≠ [] then .er 11 else if twiceB (fKeys c) || twiceB (mKeys c) then .er 23 else .ok c []
def filP (s : Bs) : Pr Cls :=
 if s.length < 4 ∨ s.take 4 ≠ [82, 69, 71, 76] then .er 10
 else if poolX (s.drop 4, false) ≠ 0 then .er (poolX (s.drop 4, false))
 else (behP (poolL (s.drop 4, false)) (poolS (s.drop 4, false)).1).then endC
def parP (s : Bs) : Pr Cls := if 65536 < s.length then .er 2 else filP s
end Go.Proofs.YtgihfcimngogfaaGreat
namespace Go.Proofs.YtgihfcimngogfaaGreat
open Go.RowKit Go
set_option linter.unusedVariables false
def Stay (Ts : List TypeId) (w w' : World) : Prop := ∀ (k : Nat) (c : Array Value) (t : TypeId) (f : Nat × Nat), t ∈ Ts → w.heap[k]? = some (.cells c t f) → w'.heap[k]? = some (.cells c t f)
theorem Stay.refl (Ts : List TypeId) (w : World) : Stay Ts w w := fun _ _ _ _ _ h => h
theorem Stay.trans {Ts : List TypeId} {a b c : World} (h : Stay Ts a b) (k : Stay Ts b c) : Stay Ts a c := fun i x t f ht hx => k i x t f ht (h i x t f ht hx)
theorem Stay.mono {Ts Us : List TypeId} {w w' : World} (h : Stay Ts w w') (hs : ∀ t, t ∈ Us → t ∈ Ts) : Stay Us w w' := fun i x t f ht hx => h i x t f (hs t ht) hx
theorem Stay.alloc {Ts : List TypeId} {a w : World} (h : Stay Ts a w) (o : Obj) : Stay Ts a (w.alloc o) := fun i x t f ht hx => by
 have := h i x t f ht hx
 rw [Below.heap_alloc _ _ _ (heap_lt this)]
 exact this
theorem Stay.drewN {Ts : List TypeId} {a w : World} (h : Stay Ts a w) (n : Nat) : Stay Ts a (w.drewN n) := h
theorem Stay.drew {Ts : List TypeId} {a w : World} (h : Stay Ts a w) : Stay Ts a w.drew := h
theorem Stay.set {Ts : List TypeId} {a w : World} (h : Stay Ts a w) {p : Addr} {c : Array Value} {t : TypeId} {f : Nat × Nat} (hp : w.heap[p.block]? = some (.cells c t f)) (ht : t ∉ Ts) (u : Value) : Stay Ts a (w.setCell p u) := fun i x t' f' ht' hx => by
 have h1 := h i x t' f' ht' hx
 by_cases e : i = p.block
 ·subst e
  rw [hp] at h1
  injection h1 with h1
  injection h1 with _ h2 _
  exact absurd (h2 ▸ ht') ht
 ·rw [Below.heap_setCell _ _ _ _ e]
  exact h1
theorem Stay.below {Ts : List TypeId} {w w' : World} (h : Below w.heap.size w w') : Stay Ts w w' := fun i x t f _ hx => by
 rw [h.block i (heap_lt hx)]
 exact hx
theorem Only.stay {Ts : List TypeId} {R : Nat} {w w' : World} (h : Only R w w') {c : Array Value} {t : TypeId} {f : Nat × Nat} (hR : w.heap[R]? = some (.cells c t f)) (ht : t ∉ Ts) : Stay Ts w w' := fun i x t' f' ht' hx => by
 refine h.keep hx ?_
 rintro rfl
 rw [hR] at hx
 injection hx with h1
 injection h1 with _ h2 _
 exact ht (h2 ▸ ht')
theorem grown_stay {Ts : List TypeId} {w w' : World} {B e size n : Nat} {v : Value} {xs : List Value} (hg : w.grownBy w' v.ownBlock) (h : w.ownsRow B e size v n xs) (he : e ∉ Ts) : Stay Ts w w' := fun i x t f ht hx => by
 rw [hg.block i (heap_lt hx)]
 ·exact hx
 ·rcases h.2 with ⟨rfl, _⟩ | ⟨g, cap, cur, rfl, _, hgg, _⟩
  ·simp [Value.ownBlock]
  ·intro e'
   simp [Value.ownBlock] at e'
   subst e'
   rw [hgg] at hx
   injection hx with h1
   injection h1 with _ h2 _
   exact he (h2 ▸ ht)
theorem own_stay {Ts : List TypeId} {w w' : World} {B e size n : Nat} {v : Value} {xs : List Value} (h : w.ownsRow B e size v n xs) (hs : Stay Ts w w') (he : e ∈ Ts) : w'.ownsRow B e size v n xs := by
 refine ⟨h.1, ?_⟩
 rcases h.2 with h2 | ⟨g, cap, cur, h1, h2, h3, h4⟩
 ·exact .inl h2
 ·exact .inr ⟨g, cap, cur, h1, h2, hs _ _ _ _ he h3, h4⟩
theorem own_base {w : World} {B B' e size n : Nat} {v : Value} {xs : List Value} (h : w.ownsRow B e size v n xs) (hB : B' ≤ B) : w.ownsRow B' e size v n xs := by
 refine ⟨h.1, ?_⟩
 rcases h.2 with h2 | ⟨g, cap, cur, h1, h2, h3⟩
 ·exact .inl h2
 ·exact .inr ⟨g, cap, cur, h1, Nat.le_trans hB h2, h3⟩
def ListE {α : Type} (E : α → List Value → Prop) : List α → List Value → Prop
 | [], xs => xs = []
 | a :: l, xs => ∃ c r, xs = c ++ r ∧ E a c ∧ ListE E l r
theorem ListE.snoc {α : Type} {E : α → List Value → Prop} {a : α} {c : List Value} (hc : E a c) : ∀ {l : List α} {xs : List Value}, ListE E l xs → ListE E (l ++ [a]) (xs ++ c)
 | [], xs, h => by
  have h' : xs = [] := h
  subst h'
  exact ⟨c, [], by simp, hc, rfl⟩
 | b :: l, xs, h => by
  obtain ⟨d, r, rfl, h1, h2⟩ := h
  exact ⟨d, r ++ c, by simp, h1, h2.snoc hc⟩
theorem ListE.imp {α : Type} {E E' : α → List Value → Prop} (hE : ∀ a c, E a c → E' a c) : ∀ {l : List α} {xs : List Value}, ListE E l xs → ListE E' l xs
 | [], _, h => h
 | b :: l, xs, h => by
  obtain ⟨d, r, rfl, h1, h2⟩ := h
  exact ⟨d, r, rfl, hE _ _ h1, h2.imp hE⟩
def SlO {α : Type} (T k : Nat) (E : World → α → List Value → Prop) (w : World) (v : Value) (l : List α) : Prop := ∃ xs, w.ownsRow 0 T k v l.length xs ∧ ListE (E w) l xs
def Keeps {α β : Type} (Ts : List TypeId) (E : World → α → β → Prop) : Prop := ∀ w w' a c, Stay Ts w w' → E w a c → E w' a c
theorem SlO.stay {α : Type} {T k : Nat} {E : World → α → List Value → Prop} {Ts : List TypeId} (hT : T ∈ Ts) (hE : Keeps Ts E) {w w' : World} {v : Value} {l : List α} (h : SlO T k E w v l) (hs : Stay Ts w w') : SlO T k E w' v l := by
 obtain ⟨xs, h1, h2⟩ := h
 exact ⟨xs, own_stay h1 hs hT, h2.imp fun a c => hE _ _ _ _ hs⟩
def StrE (_ : World) (t : Bs) (c : List Value) : Prop := c = [.string (tx t)]
def FldE (_ : World) (f : Fld) (c : List Value) : Prop := c = [.int .i64 f.flags, .string (tx f.name), .string (tx f.desc)]
def RwE (_ : World) (r : Rw) (c : List Value) : Prop := c = [.int .i64 r.fr, .int .i64 r.to, .int .i64 r.at_, .string (tx r.cls)]
abbrev StrsO := SlO 9 1 StrE
def BytsO (w : World) (v : Value) (l : Bs) : Prop :=
 (v = .slice none 0 0 ∧ l = []) ∨ ∃ g cap c f, v = .slice (some ⟨g, 0, none⟩) l.length cap ∧ l.length ≤ cap ∧ cap ≤ maxLen ∧ w.heap[g]? = some (.cells c 5 f) ∧ ∀ (i : Nat) (x : UInt8), l[i]? = some x → c[i]? = some (.int .u8 (x.toNat : Int))
abbrev FldsO := SlO 57 3 FldE
abbrev RwsO := SlO 88 4 RwE
def FrmE (w : World) (f : Frm) (c : List Value) : Prop := ∃ a b, c = [.int .i64 f.pc, a, b] ∧ StrsO w a f.locals ∧ StrsO w b f.stack
abbrev FrmsO := SlO 74 3 FrmE
def MetE (w : World) (m : Met) (c : List Value) : Prop := ∃ a b d, c = [.int .i64 m.flags, .string (tx m.name), .string (tx m.desc), .int .i64 m.stack, .int .i64 m.locals, a, b, d] ∧ BytsO w a m.code ∧ RwsO w b m.rows ∧ FrmsO w d m.frames
abbrev MetsO := SlO 62 8 MetE
theorem keeps_pure {α β : Type} (Ts : List TypeId) (E : World → α → β → Prop) (h : ∀ w w', E w = E w') : Keeps Ts E := fun w w' a c _ hc => by rw [h w' w]; exact hc
def tF : List TypeId := [9, 5, 88]
def tM : List TypeId := 74 :: tF
def tC : List TypeId := [62, 57, 39] ++ tM
theorem strs_stay {Ts : List TypeId} (h : 9 ∈ Ts) {w w' : World} {v : Value} {l : List Bs} (hv : StrsO w v l) (hs : Stay Ts w w') : StrsO w' v l := hv.stay h (keeps_pure _ _ fun _ _ => rfl) hs
theorem byts_stay {Ts : List TypeId} (h : 5 ∈ Ts) {w w' : World} {v : Value} {l : Bs} (hv : BytsO w v l) (hs : Stay Ts w w') : BytsO w' v l := by
 rcases hv with hv | ⟨g, cap, c, f, h1, h2, h3, h4, h5⟩
 ·exact .inl hv
 ·exact .inr ⟨g, cap, c, f, h1, h2, h3, hs _ _ _ _ h h4, h5⟩
theorem rws_stay {Ts : List TypeId} (h : 88 ∈ Ts) {w w' : World} {v : Value} {l : List Rw} (hv : RwsO w v l) (hs : Stay Ts w w') : RwsO w' v l := hv.stay h (keeps_pure _ _ fun _ _ => rfl) hs
theorem flds_stay {Ts : List TypeId} (h : 57 ∈ Ts) {w w' : World} {v : Value} {l : List Fld} (hv : FldsO w v l) (hs : Stay Ts w w') : FldsO w' v l := hv.stay h (keeps_pure _ _ fun _ _ => rfl) hs
theorem frmE_keeps {Ts : List TypeId} (h : 9 ∈ Ts) : Keeps Ts FrmE := by
 rintro w w' f c hs ⟨a, b, rfl, h1, h2⟩
 exact ⟨a, b, rfl, strs_stay h h1 hs, strs_stay h h2 hs⟩
theorem frms_stay {Ts : List TypeId} (h : 9 ∈ Ts) (h2 : 74 ∈ Ts) {w w' : World} {v : Value} {l : List Frm} (hv : FrmsO w v l) (hs : Stay Ts w w') : FrmsO w' v l := hv.stay h2 (frmE_keeps h) hs
theorem metE_keeps {Ts : List TypeId} (h : ∀ t, t ∈ tM → t ∈ Ts) : Keeps Ts MetE := by
 rintro w w' m c hs ⟨a, b, d, rfl, h1, h2, h3⟩
 exact ⟨a, b, d, rfl, byts_stay (h _ (by simp [tM, tF])) h1 hs, rws_stay (h _ (by simp [tM, tF])) h2 hs, frms_stay (h _ (by simp [tM, tF])) (h _ (by simp [tM, tF])) h3 hs⟩
theorem mets_stay {Ts : List TypeId} (h : ∀ t, t ∈ tC → t ∈ Ts) {w w' : World} {v : Value} {l : List Met} (hv : MetsO w v l) (hs : Stay Ts w w') : MetsO w' v l :=
 hv.stay (h _ (by simp [tC])) (metE_keeps fun t ht => h t (by simp [tC, ht])) hs
end Go.Proofs.YtgihfcimngogfaaGreat
