/- Texts of this claim, joined: DFlwSp0, DFlwCode, DFlwRows. -/
import Derived.Test.YtoommeiiadobfaaDM2
import Derived.Test.YtoommeiiadobfaaDM10
import Derived.Deep.AppendLies
import Derived.Deep.RegionLaw
/- Marks that spread from the beginning along what follows and what catches: plain words, no program. -/
namespace Go.Proofs.Ytoommeiiadobfaa
open Go.RowKit Go
set_option linter.unusedVariables false
set_option linter.unusedSimpArgs false
abbrev Mk := BitVec 64
structure WbN where
 n : Nat
 nx : Nat → List Int
 ct : Nat → List Int
 th : Nat → Bool
 st : Nat → Nat
 same : ∀ i j, i < n → j < n → st i = st j → ct i = ct j
inductive Comes (W : WbN) (beg : Mk) (sp : Nat → Mk) (b : Nat) : Nat → Prop
 | first : 0 < W.n → beg.getLsbD b = true → Comes W beg sp b 0
 | next {i j : Nat} : Comes W beg sp b i → i < W.n → (j : Int) ∈ W.nx i → j < W.n → (sp i).getLsbD b = false → Comes W beg sp b j
 | caught {i j : Nat} : Comes W beg sp b i → i < W.n → W.th i = true → (j : Int) ∈ W.ct i → j < W.n → Comes W beg sp b j
def zer (x : Mk) : Nat := (List.range 64).countP fun b => !x.getLsbD b
def zerS (n : Nat) (m : Nat → Mk) : Nat := ((List.range n).map fun i => zer (m i)).sum
def brM (m : Nat → Mk) (p : Nat) (more : Mk) : Nat → Mk := fun j => if j = p then m j ||| more else m j
theorem zer_le {x y : Mk} (h : ∀ b, x.getLsbD b = true → y.getLsbD b = true) : zer y ≤ zer x := by
 unfold zer
 refine List.countP_mono_left fun b _ hb => ?_
 cases hx : x.getLsbD b with
 | false => rfl
 | true => rw [h b hx] at hb; exact hb
theorem countP_lt {p q : Nat → Bool} {l : List Nat} (h : ∀ b ∈ l, p b = true → q b = true) (x : Nat) (hx : x ∈ l) (h1 : p x = false) (h2 : q x = true) : l.countP p + 1 ≤ l.countP q := by
 induction l with
 | nil => cases hx
 | cons a l ih =>
  rw [List.countP_cons, List.countP_cons]
  have h3 := List.countP_mono_left (p := p) (q := q) (l := l) fun b hb => h b (List.mem_cons_of_mem _ hb)
  rcases List.mem_cons.1 hx with rfl | hx
  ·rw [h1, h2]
   simp
   omega
  ·have h4 := ih (fun b hb => h b (List.mem_cons_of_mem _ hb)) hx
   have h5 := h a List.mem_cons_self
   cases hp : p a with
   | false => simp; omega
   | true => rw [h5 hp]; simp; omega
theorem bits_ne {x : Mk} (h : x ≠ 0) : ∃ b, b < 64 ∧ x.getLsbD b = true := by
 apply Classical.byContradiction
 intro hn
 apply h
 apply BitVec.eq_of_getLsbD_eq
 intro i hi
 cases hx : x.getLsbD i with
 | false => simp
 | true => exact absurd ⟨i, hi, hx⟩ hn
theorem zer_lt {x more : Mk} (h : more &&& ~~~x ≠ 0) : zer (x ||| more) + 1 ≤ zer x := by
 obtain ⟨b, hb, h1⟩ := bits_ne h
 simp only [BitVec.getLsbD_and, BitVec.getLsbD_not, Bool.and_eq_true, Bool.not_eq_true', decide_eq_true_eq] at h1
 refine countP_lt (fun c _ hc => ?_) b (List.mem_range.2 hb) (by simp [h1.1]) (by simp [h1.2.2])
 simp at hc ⊢
 exact hc.1
theorem sum_le {l : List Nat} {f g : Nat → Nat} (h : ∀ x ∈ l, f x ≤ g x) : (l.map f).sum ≤ (l.map g).sum := by
 induction l with
 | nil => simp
 | cons a l ih =>
  have h1 := h a List.mem_cons_self
  have h2 := ih fun x hx => h x (List.mem_cons_of_mem _ hx)
  simp only [List.map_cons, List.sum_cons]
  omega
theorem sum_lt {l : List Nat} {f g : Nat → Nat} (h : ∀ x ∈ l, f x ≤ g x) (x : Nat) (hx : x ∈ l) (h1 : f x + 1 ≤ g x) : (l.map f).sum + 1 ≤ (l.map g).sum := by
 induction l with
 | nil => cases hx
 | cons a l ih =>
  have h2 := h a List.mem_cons_self
  have h3 := sum_le (l := l) fun x hx => h x (List.mem_cons_of_mem _ hx)
  simp only [List.map_cons, List.sum_cons]
  rcases List.mem_cons.1 hx with rfl | hx
  ·omega
  ·have h4 := ih (fun x hx => h x (List.mem_cons_of_mem _ hx)) hx
   omega
theorem zerS_br {n p : Nat} {m : Nat → Mk} {more : Mk} (hp : p < n) (h : more &&& ~~~(m p) ≠ 0) : zerS n (brM m p more) + 1 ≤ zerS n m := by
 unfold zerS
 refine sum_lt (fun x _ => ?_) p (List.mem_range.2 hp) ?_
 ·unfold brM
  split
  ·exact zer_le fun b hb => by simp [hb]
  ·exact Nat.le_refl _
 ·unfold brM
  rw [if_pos rfl]
  exact zer_lt h
structure Brg (n : Nat) (p : Int) (more : Mk) (m : Nat → Mk) (T : List Nat) (m' : Nat → Mk) (T' : List Nat) : Prop where
 grow : ∀ j b, (m j).getLsbD b = true → (m' j).getLsbD b = true
 got : ∀ q : Nat, p = q → q < n → ∀ b, more.getLsbD b = true → (m' q).getLsbD b = true
 only : ∀ j b, (m' j).getLsbD b = true → (m j).getLsbD b = true ∨ (p = (j : Int) ∧ j < n ∧ more.getLsbD b = true)
 turned : ∀ j, m' j ≠ m j → j ∈ T'
 todo : ∀ j, j ∈ T → j ∈ T'
 lt : (∀ j ∈ T, j < n) → ∀ j ∈ T', j < n
 less : 2 * zerS n m' + T'.length ≤ 2 * zerS n m + T.length
theorem Brg.yes {n p : Nat} {more : Mk} {m : Nat → Mk} {T : List Nat} (hp : p < n) (h : more &&& ~~~(m p) ≠ 0) : Brg n p more m T (brM m p more) (T ++ [p]) where
 grow j b hb := by unfold brM; split <;> simp [hb]
 got q hq hqn b hb := by
  obtain rfl : p = q := by omega
  unfold brM
  rw [if_pos rfl]
  simp [hb]
 only j b hb := by
  unfold brM at hb
  split at hb
  ·rename_i e
   subst e
   simp at hb
   rcases hb with hb | hb
   ·exact .inl hb
   ·exact .inr ⟨rfl, hp, hb⟩
  ·exact .inl hb
 turned j hj := by
  unfold brM at hj
  split at hj
  ·rename_i e; subst e; simp
  ·exact absurd rfl hj
 todo j hj := List.mem_append_left _ hj
 lt h j hj := by
  rcases List.mem_append.1 hj with hj | hj
  ·exact h j hj
  ·simp at hj; omega
 less := by
  have := zerS_br hp h
  simp
  omega
theorem Brg.no {n : Nat} {p : Int} {more : Mk} {m : Nat → Mk} {T : List Nat} (h : ∀ q : Nat, p = q → q < n → more &&& ~~~(m q) = 0) : Brg n p more m T m T where
 grow _ _ hb := hb
 got q hq hqn b hb := by
  have h1 := h q hq hqn
  have h2 : (more &&& ~~~(m q)).getLsbD b = false := by rw [h1]; simp
  have hb64 : b < 64 := BitVec.lt_of_getLsbD hb
  simp only [BitVec.getLsbD_and, BitVec.getLsbD_not, hb, hb64, decide_true, Bool.true_and, Bool.not_eq_false'] at h2
  exact h2
 only _ _ hb := .inl hb
 turned _ h := absurd rfl h
 todo _ h := h
 lt h := h
 less := Nat.le_refl _
def ClP (W : WbN) (sp : Nat → Mk) (m t : Nat → Mk) (i : Nat) : Prop := ∀ b, (m i).getLsbD b = true → (∀ j : Nat, (j : Int) ∈ W.nx i → j < W.n → (sp i).getLsbD b = false → (m j).getLsbD b = true) ∧ (W.th i = true → (t (W.st i)).getLsbD b = true)
structure SpI (W : WbN) (beg : Mk) (sp : Nat → Mk) (m t : Nat → Mk) (T : List Nat) : Prop where
 sound : ∀ b i, i < W.n → (m i).getLsbD b = true → Comes W beg sp b i
 lt : ∀ j ∈ T, j < W.n
 first : 0 < W.n → ∀ b, beg.getLsbD b = true → (m 0).getLsbD b = true
 thr : ∀ b q, (t q).getLsbD b = true → ∀ i, i < W.n → W.st i = q → ∀ j : Nat, (j : Int) ∈ W.ct i → j < W.n → (m j).getLsbD b = true
 closed : ∀ i, i < W.n → i ∉ T → ClP W sp m t i
structure Sp1 (W : WbN) (beg : Mk) (sp : Nat → Mk) (i : Nat) (pre : List Int) (m t : Nat → Mk) (T : List Nat) : Prop where
 sound : ∀ b i, i < W.n → (m i).getLsbD b = true → Comes W beg sp b i
 lt : ∀ j ∈ T, j < W.n
 first : 0 < W.n → ∀ b, beg.getLsbD b = true → (m 0).getLsbD b = true
 thr : ∀ b q, (t q).getLsbD b = true → ∀ i, i < W.n → W.st i = q → ∀ j : Nat, (j : Int) ∈ W.ct i → j < W.n → (m j).getLsbD b = true
 closed : ∀ j, j < W.n → j ≠ i → j ∉ T → ClP W sp m t j
 at' : i < W.n
 nxt : i ∈ T ∨ ∀ b, (m i).getLsbD b = true → ∀ j : Nat, (j : Int) ∈ pre → j < W.n → (sp i).getLsbD b = false → (m j).getLsbD b = true
theorem Sp1.start {W : WbN} {beg : Mk} {sp m t : Nat → Mk} {T : List Nat} {i : Nat} (h : SpI W beg sp m t (T ++ [i])) : Sp1 W beg sp i [] m t T where
 sound := h.sound
 lt j hj := h.lt j (List.mem_append_left _ hj)
 first := h.first
 thr := h.thr
 closed j hj hn ht := h.closed j hj (by simp [hn, ht])
 at' := h.lt i (by simp)
 nxt := .inr fun _ _ _ hj => by cases hj
theorem Sp1.step {W : WbN} {beg : Mk} {sp m t m' : Nat → Mk} {T T' : List Nat} {i : Nat} {pre : List Int} {p : Int} (h : Sp1 W beg sp i pre m t T) (hp : p ∈ W.nx i) (hb : Brg W.n p (m i &&& ~~~(sp i)) m T m' T') : Sp1 W beg sp i (pre ++ [p]) m' t T' where
 sound b j hj hm := by
  rcases hb.only j b hm with h1 | ⟨h1, h2, h3⟩
  ·exact h.sound b j hj h1
  ·have hb64 : b < 64 := BitVec.lt_of_getLsbD h3
   simp only [BitVec.getLsbD_and, BitVec.getLsbD_not, hb64, decide_true, Bool.true_and, Bool.and_eq_true, Bool.not_eq_true'] at h3
   exact .next (h.sound b i h.at' h3.1) h.at' (h1 ▸ hp) h2 h3.2
 lt := hb.lt h.lt
 first h0 b hbb := hb.grow _ _ (h.first h0 b hbb)
 thr b q hq j hj hs k hk hkn := hb.grow _ _ (h.thr b q hq j hj hs k hk hkn)
 closed j hj hn ht b hm := by
  have e : m' j = m j := Classical.byContradiction fun hne => ht (hb.turned j hne)
  rw [e] at hm
  have h1 := h.closed j hj hn (fun hx => ht (hb.todo j hx)) b hm
  exact ⟨fun k hk hkn hs => hb.grow _ _ (h1.1 k hk hkn hs), h1.2⟩
 at' := h.at'
 nxt := by
  by_cases e : m' i = m i
  ·rcases h.nxt with h1 | h1
   ·exact .inl (hb.todo i h1)
   ·refine .inr fun b hm j hj hjn hs => ?_
    rw [e] at hm
    rcases List.mem_append.1 hj with hj | hj
    ·exact hb.grow _ _ (h1 b hm j hj hjn hs)
    ·rw [List.mem_singleton] at hj
     have hb64 : b < 64 := BitVec.lt_of_getLsbD hm
     exact hb.got j hj.symm hjn b (by simp only [BitVec.getLsbD_and, BitVec.getLsbD_not, hm, hs, hb64, decide_true, Bool.not_false, Bool.and_self])
  ·exact .inl (hb.turned i e)
theorem and_not_zero {x y : Mk} (h : x &&& ~~~y = 0) {b : Nat} (hb : x.getLsbD b = true) : y.getLsbD b = true := by
 have h2 : (x &&& ~~~y).getLsbD b = false := by rw [h]; simp
 have hb64 : b < 64 := BitVec.lt_of_getLsbD hb
 simp only [BitVec.getLsbD_and, BitVec.getLsbD_not, hb, hb64, decide_true, Bool.true_and, Bool.not_eq_false'] at h2
 exact h2
theorem Sp1.skip {W : WbN} {beg : Mk} {sp m t : Nat → Mk} {T : List Nat} {i : Nat} (h : Sp1 W beg sp i (W.nx i) m t T) (ht : W.th i = true → m i &&& ~~~(t (W.st i)) = 0) : SpI W beg sp m t T where
 sound := h.sound
 lt := h.lt
 first := h.first
 thr := h.thr
 closed j hj hn := by
  by_cases e : j = i
  ·subst e
   intro b hm
   rcases h.nxt with h1 | h1
   ·exact absurd h1 hn
   ·exact ⟨h1 b hm, fun h2 => and_not_zero (ht h2) hm⟩
  ·exact h.closed j hj e hn
structure Sp2 (W : WbN) (beg : Mk) (sp : Nat → Mk) (i : Nat) (pre : List Int) (m t : Nat → Mk) (T : List Nat) : Prop where
 sound : ∀ b i, i < W.n → (m i).getLsbD b = true → Comes W beg sp b i
 lt : ∀ j ∈ T, j < W.n
 first : 0 < W.n → ∀ b, beg.getLsbD b = true → (m 0).getLsbD b = true
 thr : ∀ b q, q ≠ W.st i → (t q).getLsbD b = true → ∀ i, i < W.n → W.st i = q → ∀ j : Nat, (j : Int) ∈ W.ct i → j < W.n → (m j).getLsbD b = true
 thn : ∀ b, (t (W.st i)).getLsbD b = true → (∀ j : Nat, (j : Int) ∈ W.ct i → j < W.n → (m j).getLsbD b = true) ∨ ((m i).getLsbD b = true ∧ ∀ j : Nat, (j : Int) ∈ pre → j < W.n → (m j).getLsbD b = true)
 closed : ∀ j, j < W.n → j ≠ i → j ∉ T → ClP W sp m t j
 at' : i < W.n
 throws : W.th i = true
 nxt : i ∈ T ∨ ClP W sp m t i
theorem Sp2.start {W : WbN} {beg : Mk} {sp m t t' : Nat → Mk} {T : List Nat} {i : Nat} (h : Sp1 W beg sp i (W.nx i) m t T) (hth : W.th i = true) (e1 : t' (W.st i) = t (W.st i) ||| m i) (e2 : ∀ q, q ≠ W.st i → t' q = t q) : Sp2 W beg sp i [] m t' T where
 sound := h.sound
 lt := h.lt
 first := h.first
 thr b q hq ht := by rw [e2 q hq] at ht; exact h.thr b q ht
 thn b hb := by
  rw [e1] at hb
  simp only [BitVec.getLsbD_or, Bool.or_eq_true] at hb
  rcases hb with hb | hb
  ·exact .inl fun j hj hjn => h.thr b _ hb i h.at' rfl j hj hjn
  ·exact .inr ⟨hb, fun _ hj => by cases hj⟩
 closed j hj hn ht b hm := by
  have h1 := h.closed j hj hn ht b hm
  refine ⟨h1.1, fun h2 => ?_⟩
  by_cases e : W.st j = W.st i
  ·rw [e, e1]
   have := h1.2 h2
   rw [e] at this
   simp [this]
  ·rw [e2 _ e]
   exact h1.2 h2
 at' := h.at'
 throws := hth
 nxt := by
  rcases h.nxt with h1 | h1
  ·exact .inl h1
  ·refine .inr fun b hm => ⟨h1 b hm, fun _ => ?_⟩
   rw [e1]
   simp [hm]
theorem Sp2.step {W : WbN} {beg : Mk} {sp m t m' : Nat → Mk} {T T' : List Nat} {i : Nat} {pre : List Int} {p : Int} (h : Sp2 W beg sp i pre m t T) (hp : p ∈ W.ct i) (hb : Brg W.n p (m i) m T m' T') : Sp2 W beg sp i (pre ++ [p]) m' t T' where
 sound b j hj hm := by
  rcases hb.only j b hm with h1 | ⟨h1, h2, h3⟩
  ·exact h.sound b j hj h1
  ·exact .caught (h.sound b i h.at' h3) h.at' h.throws (h1 ▸ hp) h2
 lt := hb.lt h.lt
 first h0 b hbb := hb.grow _ _ (h.first h0 b hbb)
 thr b q hq ht j hj hs k hk hkn := hb.grow _ _ (h.thr b q hq ht j hj hs k hk hkn)
 thn b ht := by
  rcases h.thn b ht with h1 | ⟨h1, h2⟩
  ·exact .inl fun j hj hjn => hb.grow _ _ (h1 j hj hjn)
  ·refine .inr ⟨hb.grow _ _ h1, fun j hj hjn => ?_⟩
   rcases List.mem_append.1 hj with hj | hj
   ·exact hb.grow _ _ (h2 j hj hjn)
   ·rw [List.mem_singleton] at hj
    exact hb.got j hj.symm hjn b h1
 closed j hj hn ht b hm := by
  have e : m' j = m j := Classical.byContradiction fun hne => ht (hb.turned j hne)
  rw [e] at hm
  have h1 := h.closed j hj hn (fun hx => ht (hb.todo j hx)) b hm
  exact ⟨fun k hk hkn hs => hb.grow _ _ (h1.1 k hk hkn hs), h1.2⟩
 at' := h.at'
 throws := h.throws
 nxt := by
  by_cases e : m' i = m i
  ·rcases h.nxt with h1 | h1
   ·exact .inl (hb.todo i h1)
   ·refine .inr fun b hm => ?_
    rw [e] at hm
    have h2 := h1 b hm
    exact ⟨fun k hk hkn hs => hb.grow _ _ (h2.1 k hk hkn hs), h2.2⟩
  ·exact .inl (hb.turned i e)
theorem Sp2.done {W : WbN} {beg : Mk} {sp m t : Nat → Mk} {T : List Nat} {i : Nat} (h : Sp2 W beg sp i (W.ct i) m t T) : SpI W beg sp m t T where
 sound := h.sound
 lt := h.lt
 first := h.first
 thr b q ht j hj hs k hk hkn := by
  by_cases e : q = W.st i
  ·have e2 : W.ct j = W.ct i := W.same j i hj h.at' (hs.trans e)
   rw [e2] at hk
   rw [e] at ht
   rcases h.thn b ht with h1 | h1
   ·exact h1 k hk hkn
   ·exact h1.2 k hk hkn
  ·exact h.thr b q e ht j hj hs k hk hkn
 closed j hj hn := by
  by_cases e : j = i
  ·subst e
   rcases h.nxt with h1 | h1
   ·exact absurd h1 hn
   ·exact h1
  ·exact h.closed j hj e hn
theorem SpI.all {W : WbN} {beg : Mk} {sp m t : Nat → Mk} (h : SpI W beg sp m t []) (b i : Nat) (hi : i < W.n) : (m i).getLsbD b = true ↔ Comes W beg sp b i := by
 refine ⟨h.sound b i hi, fun hc => ?_⟩
 clear hi
 induction hc with
 | first h0 h1 => exact h.first h0 b h1
 | next _ hi hj hjn hs ih => exact (h.closed _ hi (by simp) b ih).1 _ hj hjn hs
 | caught _ hi ht hj hjn ih => exact h.thr b _ ((h.closed _ hi (by simp) b ih).2 ht) _ hi rfl _ hj hjn
theorem SpI.start {W : WbN} {beg : Mk} {sp m t m' : Nat → Mk} {T' : List Nat} (hm : ∀ i, m i = 0) (ht : ∀ i, t i = 0) (hb : Brg W.n 0 beg m [] m' T') : SpI W beg sp m' t T' where
 sound b i hi h := by
  rcases hb.only i b h with h1 | ⟨h1, h2, h3⟩
  ·rw [hm] at h1; simp at h1
  ·obtain rfl : i = 0 := by omega
   exact .first h2 h3
 lt := hb.lt fun _ h => by cases h
 first h0 b h := hb.got 0 rfl h0 b h
 thr b q h := by rw [ht] at h; simp at h
 closed i hi hn b h := by
  have e : m' i = m i := Classical.byContradiction fun hne => hn (hb.turned i hne)
  rw [e, hm] at h
  simp at h
end Go.Proofs.Ytoommeiiadobfaa
/- The instructions that stay: the program's trimmedCode. -/
namespace Go.Proofs.Ytoommeiiadobfaa
open Go.RowKit Go
set_option linter.unusedVariables false
set_option linter.unusedSimpArgs false
def OwC (P : Nat → Prop) (w0 w : World) (B : Nat) (v : Value) (L : List InI) : Prop := ∃ xs, w.ownsRow B 35 9 v L.length xs ∧ RowsE 9 (InE P w0) L xs
end Go.Proofs.Ytoommeiiadobfaa
/- The rows that may still catch something: the program's trimmedRows. -/
namespace Go.Proofs.Ytoommeiiadobfaa
open Go.RowKit Go
set_option linter.unusedVariables false
set_option linter.unusedSimpArgs false
def OwR (w0 w : World) (B : Nat) (v : Value) (L : List RwI) : Prop := ∃ xs, w.ownsRow B 56 4 v L.length xs ∧ RowsE 4 (RwE w0) L xs
end Go.Proofs.Ytoommeiiadobfaa
