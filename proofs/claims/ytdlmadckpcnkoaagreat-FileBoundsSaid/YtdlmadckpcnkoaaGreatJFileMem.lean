/- Memory for package file: lists that a call made, what keeps them. -/
import Derived.Test.YtdlmadckpcnkoaaGreatJPoolMem
import Derived.Test.YtdlmadckpcnkoaaGreatM1
import Derived.Laws.AppendOwn
import Derived.OwnWalk
namespace Go.Proofs.YtdlmadckpcnkoaaGreat
open Go.RowKit Go
set_option linter.unusedVariables false

/-- Blocks of these types stand as they stood. -/
def Stay (Ts : List TypeId) (w w' : World) : Prop := ∀ (k : Nat) (c : Array Value) (t : TypeId) (f : Nat × Nat), t ∈ Ts → w.heap[k]? = some (.cells c t f) → w'.heap[k]? = some (.cells c t f)
theorem Stay.refl (Ts : List TypeId) (w : World) : Stay Ts w w := fun _ _ _ _ _ h => h
theorem Stay.trans {Ts : List TypeId} {a b c : World} (h : Stay Ts a b) (k : Stay Ts b c) : Stay Ts a c := fun i x t f ht hx => k i x t f ht (h i x t f ht hx)
theorem Stay.mono {Ts Us : List TypeId} {w w' : World} (h : Stay Ts w w') (hs : ∀ t, t ∈ Us → t ∈ Ts) : Stay Us w w' := fun i x t f ht hx => h i x t f (hs t ht) hx
theorem Stay.alloc {Ts : List TypeId} {a w : World} (h : Stay Ts a w) (o : Obj) : Stay Ts a (w.alloc o) := fun i x t f ht hx => by
  have := h i x t f ht hx
  rw [Below.heap_alloc _ _ _ (heap_lt this)]
  exact this
theorem Stay.drewN {Ts : List TypeId} {a w : World} (h : Stay Ts a w) (n : Nat) : Stay Ts a (w.drewN n) := h
theorem Stay.drew {Ts : List TypeId} {a w : World} (h : Stay Ts a w) : Stay Ts a w.drew := h
theorem Stay.set {Ts : List TypeId} {a w : World} (h : Stay Ts a w) {p : Addr} {c : Array Value} {t : TypeId} {f : Nat × Nat} (hp : w.heap[p.block]? = some (.cells c t f)) (ht : t ∉ Ts) (u : Value) : Stay Ts a (w.setCell p u) := fun i x t' f' ht' hx => by
  have h1 := h i x t' f' ht' hx
  by_cases e : i = p.block
  · subst e
    rw [hp] at h1
    injection h1 with h1
    injection h1 with _ h2 _
    exact absurd (h2 ▸ ht') ht
  · rw [Below.heap_setCell _ _ _ _ e]
    exact h1
theorem Stay.below {Ts : List TypeId} {w w' : World} (h : Below w.heap.size w w') : Stay Ts w w' := fun i x t f _ hx => by
  rw [h.block i (heap_lt hx)]
  exact hx
theorem Only.stay {Ts : List TypeId} {R : Nat} {w w' : World} (h : Only R w w') {c : Array Value} {t : TypeId} {f : Nat × Nat} (hR : w.heap[R]? = some (.cells c t f)) (ht : t ∉ Ts) : Stay Ts w w' := fun i x t' f' ht' hx => by
  refine h.keep hx ?_
  rintro rfl
  rw [hR] at hx
  injection hx with h1
  injection h1 with _ h2 _
  exact ht (h2 ▸ ht')
theorem grown_stay {Ts : List TypeId} {w w' : World} {B e size n : Nat} {v : Value} {xs : List Value} (hg : w.grownBy w' v.ownBlock) (h : w.ownsRow B e size v n xs) (he : e ∉ Ts) : Stay Ts w w' := fun i x t f ht hx => by
  rw [hg.block i (heap_lt hx)]
  · exact hx
  · rcases h.2 with ⟨rfl, _⟩ | ⟨g, cap, cur, rfl, _, hgg, _⟩
    · simp [Value.ownBlock]
    · intro e'
      simp [Value.ownBlock] at e'
      subst e'
      rw [hgg] at hx
      injection hx with h1
      injection h1 with _ h2 _
      exact he (h2 ▸ ht)
theorem own_stay {Ts : List TypeId} {w w' : World} {B e size n : Nat} {v : Value} {xs : List Value} (h : w.ownsRow B e size v n xs) (hs : Stay Ts w w') (he : e ∈ Ts) : w'.ownsRow B e size v n xs := by
  refine ⟨h.1, ?_⟩
  rcases h.2 with h2 | ⟨g, cap, cur, h1, h2, h3, h4⟩
  · exact .inl h2
  · exact .inr ⟨g, cap, cur, h1, h2, hs _ _ _ _ he h3, h4⟩
theorem own_base {w : World} {B B' e size n : Nat} {v : Value} {xs : List Value} (h : w.ownsRow B e size v n xs) (hB : B' ≤ B) : w.ownsRow B' e size v n xs := by
  refine ⟨h.1, ?_⟩
  rcases h.2 with h2 | ⟨g, cap, cur, h1, h2, h3⟩
  · exact .inl h2
  · exact .inr ⟨g, cap, cur, h1, Nat.le_trans hB h2, h3⟩
/-- These cells are the things of a list, one behind the other. -/
def ListE {α : Type} (E : α → List Value → Prop) : List α → List Value → Prop
  | [], xs => xs = []
  | a :: l, xs => ∃ c r, xs = c ++ r ∧ E a c ∧ ListE E l r
theorem ListE.snoc {α : Type} {E : α → List Value → Prop} {a : α} {c : List Value} (hc : E a c) : ∀ {l : List α} {xs : List Value}, ListE E l xs → ListE E (l ++ [a]) (xs ++ c)
  | [], xs, h => by
    have h' : xs = [] := h
    subst h'
    exact ⟨c, [], by simp, hc, rfl⟩
  | b :: l, xs, h => by
    obtain ⟨d, r, rfl, h1, h2⟩ := h
    exact ⟨d, r ++ c, by simp, h1, h2.snoc hc⟩
theorem ListE.imp {α : Type} {E E' : α → List Value → Prop} (hE : ∀ a c, E a c → E' a c) : ∀ {l : List α} {xs : List Value}, ListE E l xs → ListE E' l xs
  | [], _, h => h
  | b :: l, xs, h => by
    obtain ⟨d, r, rfl, h1, h2⟩ := h
    exact ⟨d, r, rfl, hE _ _ h1, h2.imp hE⟩
/-- v is a slice that was made, of rows of k cells of type T: the things of l. -/
def SlO {α : Type} (T k : Nat) (E : World → α → List Value → Prop) (w : World) (v : Value) (l : List α) : Prop := ∃ xs, w.ownsRow 0 T k v l.length xs ∧ ListE (E w) l xs
def Keeps {α β : Type} (Ts : List TypeId) (E : World → α → β → Prop) : Prop := ∀ w w' a c, Stay Ts w w' → E w a c → E w' a c
theorem SlO.stay {α : Type} {T k : Nat} {E : World → α → List Value → Prop} {Ts : List TypeId} (hT : T ∈ Ts) (hE : Keeps Ts E) {w w' : World} {v : Value} {l : List α} (h : SlO T k E w v l) (hs : Stay Ts w w') : SlO T k E w' v l := by
  obtain ⟨xs, h1, h2⟩ := h
  exact ⟨xs, own_stay h1 hs hT, h2.imp fun a c => hE _ _ _ _ hs⟩
def StrE (_ : World) (t : Bs) (c : List Value) : Prop := c = [.string (tx t)]
def FldE (_ : World) (f : Fld) (c : List Value) : Prop := c = [.int .i64 f.flags, .string (tx f.name), .string (tx f.desc)]
def RwE (_ : World) (r : Rw) (c : List Value) : Prop := c = [.int .i64 r.fr, .int .i64 r.to, .int .i64 r.at_, .string (tx r.cls)]
abbrev StrsO := SlO 9 1 StrE
/-- v is a slice of the bytes l, in a block of bytes that nobody writes. -/
def BytsO (w : World) (v : Value) (l : Bs) : Prop :=
  (v = .slice none 0 0 ∧ l = []) ∨ ∃ g cap c f, v = .slice (some ⟨g, 0, none⟩) l.length cap ∧ l.length ≤ cap ∧ cap ≤ maxLen ∧ w.heap[g]? = some (.cells c 5 f) ∧ ∀ (i : Nat) (x : UInt8), l[i]? = some x → c[i]? = some (.int .u8 (x.toNat : Int))
abbrev FldsO := SlO 42 3 FldE
abbrev RwsO := SlO 134 4 RwE
def FrmE (w : World) (f : Frm) (c : List Value) : Prop := ∃ a b, c = [.int .i64 f.pc, a, b] ∧ StrsO w a f.locals ∧ StrsO w b f.stack
abbrev FrmsO := SlO 97 3 FrmE
def MetE (w : World) (m : Met) (c : List Value) : Prop := ∃ a b d, c = [.int .i64 m.flags, .string (tx m.name), .string (tx m.desc), .int .i64 m.stack, .int .i64 m.locals, a, b, d] ∧ BytsO w a m.code ∧ RwsO w b m.rows ∧ FrmsO w d m.frames
abbrev MetsO := SlO 47 8 MetE
theorem keeps_pure {α β : Type} (Ts : List TypeId) (E : World → α → β → Prop) (h : ∀ w w', E w = E w') : Keeps Ts E := fun w w' a c _ hc => by rw [h w' w]; exact hc
def tF : List TypeId := [9, 5, 134]
def tM : List TypeId := 97 :: tF
def tC : List TypeId := [47, 42, 52] ++ tM
theorem strs_stay {Ts : List TypeId} (h : 9 ∈ Ts) {w w' : World} {v : Value} {l : List Bs} (hv : StrsO w v l) (hs : Stay Ts w w') : StrsO w' v l := hv.stay h (keeps_pure _ _ fun _ _ => rfl) hs
theorem byts_stay {Ts : List TypeId} (h : 5 ∈ Ts) {w w' : World} {v : Value} {l : Bs} (hv : BytsO w v l) (hs : Stay Ts w w') : BytsO w' v l := by
  rcases hv with hv | ⟨g, cap, c, f, h1, h2, h3, h4, h5⟩
  · exact .inl hv
  · exact .inr ⟨g, cap, c, f, h1, h2, h3, hs _ _ _ _ h h4, h5⟩
theorem rws_stay {Ts : List TypeId} (h : 134 ∈ Ts) {w w' : World} {v : Value} {l : List Rw} (hv : RwsO w v l) (hs : Stay Ts w w') : RwsO w' v l := hv.stay h (keeps_pure _ _ fun _ _ => rfl) hs
theorem flds_stay {Ts : List TypeId} (h : 42 ∈ Ts) {w w' : World} {v : Value} {l : List Fld} (hv : FldsO w v l) (hs : Stay Ts w w') : FldsO w' v l := hv.stay h (keeps_pure _ _ fun _ _ => rfl) hs
theorem frmE_keeps {Ts : List TypeId} (h : 9 ∈ Ts) : Keeps Ts FrmE := by
  rintro w w' f c hs ⟨a, b, rfl, h1, h2⟩
  exact ⟨a, b, rfl, strs_stay h h1 hs, strs_stay h h2 hs⟩
theorem frms_stay {Ts : List TypeId} (h : 9 ∈ Ts) (h2 : 97 ∈ Ts) {w w' : World} {v : Value} {l : List Frm} (hv : FrmsO w v l) (hs : Stay Ts w w') : FrmsO w' v l := hv.stay h2 (frmE_keeps h) hs
theorem metE_keeps {Ts : List TypeId} (h : ∀ t, t ∈ tM → t ∈ Ts) : Keeps Ts MetE := by
  rintro w w' m c hs ⟨a, b, d, rfl, h1, h2, h3⟩
  exact ⟨a, b, d, rfl, byts_stay (h _ (by simp [tM, tF])) h1 hs, rws_stay (h _ (by simp [tM, tF])) h2 hs, frms_stay (h _ (by simp [tM, tF])) (h _ (by simp [tM, tF])) h3 hs⟩
theorem mets_stay {Ts : List TypeId} (h : ∀ t, t ∈ tC → t ∈ Ts) {w w' : World} {v : Value} {l : List Met} (hv : MetsO w v l) (hs : Stay Ts w w') : MetsO w' v l :=
  hv.stay (h _ (by simp [tC])) (metE_keeps fun t ht => h t (by simp [tC, ht])) hs
end Go.Proofs.YtdlmadckpcnkoaaGreat
