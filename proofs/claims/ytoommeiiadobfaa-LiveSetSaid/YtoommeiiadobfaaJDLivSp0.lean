/- Marks that spread backwards: from where a register is read to wherever one comes from. Plain words, no program. -/
import Derived.Test.YtoommeiiadobfaaDM11
namespace Go.Proofs.Ytoommeiiadobfaa
open Go.RowKit Go
set_option linter.unusedVariables false
set_option linter.unusedSimpArgs false
structure LwN where
 n : Nat
 us : Nat → Mk
 wr : Nat → Mk
 pr : Nat → List Int
 ca : Nat → List Int
 th : Nat → List Int
inductive Cb (W : LwN) (b : Nat) : Nat → Prop
 | use {i : Nat} : i < W.n → (W.us i).getLsbD b = true → Cb W b i
 | next {i j : Nat} : Cb W b j → j < W.n → (i : Int) ∈ W.pr j → i < W.n → (W.wr i).getLsbD b = false → Cb W b i
 | caught {i j s : Nat} : Cb W b j → j < W.n → (s : Int) ∈ W.ca j → (i : Int) ∈ W.th s → i < W.n → Cb W b i
def ClL (W : LwN) (m t : Nat → Mk) (j : Nat) : Prop := ∀ b, (m j).getLsbD b = true → (∀ i : Nat, (i : Int) ∈ W.pr j → i < W.n → (W.wr i).getLsbD b = false → (m i).getLsbD b = true) ∧ (∀ s : Nat, (s : Int) ∈ W.ca j → (t s).getLsbD b = true)
structure LvI (W : LwN) (k : Nat) (m t : Nat → Mk) (T : List Nat) : Prop where
 sound : ∀ b i, i < W.n → (m i).getLsbD b = true → Cb W b i
 lt : ∀ j ∈ T, j < W.n
 use : ∀ b i, i < k → i < W.n → (W.us i).getLsbD b = true → (m i).getLsbD b = true
 thr : ∀ b s, (t s).getLsbD b = true → ∀ i : Nat, (i : Int) ∈ W.th s → i < W.n → (m i).getLsbD b = true
 closed : ∀ j, j < W.n → j ∉ T → ClL W m t j
theorem LvI.begin (W : LwN) : LvI W 0 (fun _ => 0) (fun _ => 0) [] where
 sound b i _ h := by simp at h
 lt _ h := by cases h
 use b i h := by omega
 thr b s h := by simp at h
 closed j _ _ b h := by simp at h
structure Lv1 (W : LwN) (j : Nat) (pre : List Int) (m t : Nat → Mk) (T : List Nat) : Prop where
 sound : ∀ b i, i < W.n → (m i).getLsbD b = true → Cb W b i
 lt : ∀ j ∈ T, j < W.n
 use : ∀ b i, i < W.n → (W.us i).getLsbD b = true → (m i).getLsbD b = true
 thr : ∀ b s, (t s).getLsbD b = true → ∀ i : Nat, (i : Int) ∈ W.th s → i < W.n → (m i).getLsbD b = true
 closed : ∀ i, i < W.n → i ≠ j → i ∉ T → ClL W m t i
 at' : j < W.n
 prv : j ∈ T ∨ ∀ b, (m j).getLsbD b = true → ∀ i : Nat, (i : Int) ∈ pre → i < W.n → (W.wr i).getLsbD b = false → (m i).getLsbD b = true
theorem Lv1.start {W : LwN} {m t : Nat → Mk} {T : List Nat} {j : Nat} (h : LvI W W.n m t (T ++ [j])) : Lv1 W j [] m t T where
 sound := h.sound
 lt i hi := h.lt i (List.mem_append_left _ hi)
 use b i hi hu := h.use b i hi hi hu
 thr := h.thr
 closed i hi hn ht := h.closed i hi (by simp [hn, ht])
 at' := h.lt j (by simp)
 prv := .inr fun _ _ _ hi => by cases hi
theorem Lv1.step {W : LwN} {m t m' : Nat → Mk} {T T' : List Nat} {j : Nat} {pre : List Int} {p : Int} {q : Nat} (h : Lv1 W j pre m t T) (hpq : p = q) (hp : p ∈ W.pr j) (hb : Brg W.n p (m j &&& ~~~(W.wr q)) m T m' T') : Lv1 W j (pre ++ [p]) m' t T' where
 sound b i hi hm := by
  rcases hb.only i b hm with h1 | ⟨h1, h2, h3⟩
  ·exact h.sound b i hi h1
  ·have hb64 : b < 64 := BitVec.lt_of_getLsbD h3
   simp only [BitVec.getLsbD_and, BitVec.getLsbD_not, hb64, decide_true, Bool.true_and, Bool.and_eq_true, Bool.not_eq_true'] at h3
   obtain rfl : q = i := by omega
   exact .next (h.sound b j h.at' h3.1) h.at' (h1 ▸ hp) hi h3.2
 lt := hb.lt h.lt
 use b i hi hu := hb.grow _ _ (h.use b i hi hu)
 thr b s hs i hi hn := hb.grow _ _ (h.thr b s hs i hi hn)
 closed i hi hn ht b hm := by
  have e : m' i = m i := Classical.byContradiction fun hne => ht (hb.turned i hne)
  rw [e] at hm
  have h1 := h.closed i hi hn (fun hx => ht (hb.todo i hx)) b hm
  exact ⟨fun k hk hkn hs => hb.grow _ _ (h1.1 k hk hkn hs), h1.2⟩
 at' := h.at'
 prv := by
  by_cases e : m' j = m j
  ·rcases h.prv with h1 | h1
   ·exact .inl (hb.todo j h1)
   ·refine .inr fun b hm i hi hin hw => ?_
    rw [e] at hm
    rcases List.mem_append.1 hi with hi | hi
    ·exact hb.grow _ _ (h1 b hm i hi hin hw)
    ·have h2 : (i : Int) = p := List.mem_singleton.1 hi
     obtain rfl : q = i := by omega
     have hb64 : b < 64 := BitVec.lt_of_getLsbD hm
     exact hb.got q hpq hin b (by simp only [BitVec.getLsbD_and, BitVec.getLsbD_not, hm, hw, hb64, decide_true, Bool.not_false, Bool.and_self])
  ·exact .inl (hb.turned j e)
structure Lv2 (W : LwN) (j : Nat) (pre : List Int) (m t : Nat → Mk) (T : List Nat) : Prop where
 sound : ∀ b i, i < W.n → (m i).getLsbD b = true → Cb W b i
 lt : ∀ j ∈ T, j < W.n
 use : ∀ b i, i < W.n → (W.us i).getLsbD b = true → (m i).getLsbD b = true
 thr : ∀ b s, (t s).getLsbD b = true → ∀ i : Nat, (i : Int) ∈ W.th s → i < W.n → (m i).getLsbD b = true
 closed : ∀ i, i < W.n → i ≠ j → i ∉ T → ClL W m t i
 at' : j < W.n
 prv : j ∈ T ∨ ∀ b, (m j).getLsbD b = true → (∀ i : Nat, (i : Int) ∈ W.pr j → i < W.n → (W.wr i).getLsbD b = false → (m i).getLsbD b = true) ∧ ∀ s : Nat, (s : Int) ∈ pre → (t s).getLsbD b = true
theorem Lv2.start {W : LwN} {m t : Nat → Mk} {T : List Nat} {j : Nat} (h : Lv1 W j (W.pr j) m t T) : Lv2 W j [] m t T where
 sound := h.sound
 lt := h.lt
 use := h.use
 thr := h.thr
 closed := h.closed
 at' := h.at'
 prv := h.prv.imp id fun h1 b hm => ⟨h1 b hm, fun _ hs => by cases hs⟩
theorem Lv2.skip {W : LwN} {m t : Nat → Mk} {T : List Nat} {j s : Nat} {pre : List Int} (h : Lv2 W j pre m t T) (ht : m j &&& ~~~(t s) = 0) : Lv2 W j (pre ++ [(s : Int)]) m t T where
 sound := h.sound
 lt := h.lt
 use := h.use
 thr := h.thr
 closed := h.closed
 at' := h.at'
 prv := h.prv.imp id fun h1 b hm => ⟨(h1 b hm).1, fun q hq => by
  rcases List.mem_append.1 hq with hq | hq
  ·exact (h1 b hm).2 q hq
  ·obtain rfl : q = s := by have := List.mem_singleton.1 hq; omega
   exact and_not_zero ht hm⟩
structure Lv3 (W : LwN) (j s : Nat) (pre pre2 : List Int) (m t : Nat → Mk) (T : List Nat) : Prop where
 sound : ∀ b i, i < W.n → (m i).getLsbD b = true → Cb W b i
 lt : ∀ j ∈ T, j < W.n
 use : ∀ b i, i < W.n → (W.us i).getLsbD b = true → (m i).getLsbD b = true
 thr : ∀ b q, q ≠ s → (t q).getLsbD b = true → ∀ i : Nat, (i : Int) ∈ W.th q → i < W.n → (m i).getLsbD b = true
 thn : ∀ b, (t s).getLsbD b = true → (∀ i : Nat, (i : Int) ∈ W.th s → i < W.n → (m i).getLsbD b = true) ∨ ((m j).getLsbD b = true ∧ ∀ i : Nat, (i : Int) ∈ pre2 → i < W.n → (m i).getLsbD b = true)
 closed : ∀ i, i < W.n → i ≠ j → i ∉ T → ClL W m t i
 at' : j < W.n
 ca : (s : Int) ∈ W.ca j
 prv : j ∈ T ∨ ∀ b, (m j).getLsbD b = true → (∀ i : Nat, (i : Int) ∈ W.pr j → i < W.n → (W.wr i).getLsbD b = false → (m i).getLsbD b = true) ∧ ∀ q : Nat, (q : Int) ∈ pre ++ [(s : Int)] → (t q).getLsbD b = true
theorem Lv3.start {W : LwN} {m t t' : Nat → Mk} {T : List Nat} {j s : Nat} {pre : List Int} (h : Lv2 W j pre m t T) (hs : (s : Int) ∈ W.ca j) (e1 : t' s = t s ||| m j) (e2 : ∀ q, q ≠ s → t' q = t q) : Lv3 W j s pre [] m t' T where
 sound := h.sound
 lt := h.lt
 use := h.use
 thr b q hq ht := by rw [e2 q hq] at ht; exact h.thr b q ht
 thn b hb := by
  rw [e1] at hb
  simp only [BitVec.getLsbD_or, Bool.or_eq_true] at hb
  rcases hb with hb | hb
  ·exact .inl fun i hi hin => h.thr b s hb i hi hin
  ·exact .inr ⟨hb, fun _ hi => by cases hi⟩
 closed i hi hn ht b hm := by
  have h1 := h.closed i hi hn ht b hm
  refine ⟨h1.1, fun q hq => ?_⟩
  by_cases e : q = s
  ·subst e
   rw [e1]
   simp [h1.2 q hq]
  ·rw [e2 _ e]
   exact h1.2 q hq
 at' := h.at'
 ca := hs
 prv := h.prv.imp id fun h1 b hm => ⟨(h1 b hm).1, fun q hq => by
  by_cases e : q = s
  ·subst e
   rw [e1]
   simp [hm]
  ·rw [e2 _ e]
   rcases List.mem_append.1 hq with hq | hq
   ·exact (h1 b hm).2 q hq
   ·exact absurd (by have := List.mem_singleton.1 hq; omega) e⟩
theorem Lv3.step {W : LwN} {m t m' : Nat → Mk} {T T' : List Nat} {j s : Nat} {pre pre2 : List Int} {p : Int} (h : Lv3 W j s pre pre2 m t T) (hp : p ∈ W.th s) (hb : Brg W.n p (m j) m T m' T') : Lv3 W j s pre (pre2 ++ [p]) m' t T' where
 sound b i hi hm := by
  rcases hb.only i b hm with h1 | ⟨h1, h2, h3⟩
  ·exact h.sound b i hi h1
  ·exact .caught (h.sound b j h.at' h3) h.at' h.ca (h1 ▸ hp) hi
 lt := hb.lt h.lt
 use b i hi hu := hb.grow _ _ (h.use b i hi hu)
 thr b q hq ht i hi hn := hb.grow _ _ (h.thr b q hq ht i hi hn)
 thn b ht := by
  rcases h.thn b ht with h1 | ⟨h1, h2⟩
  ·exact .inl fun i hi hin => hb.grow _ _ (h1 i hi hin)
  ·refine .inr ⟨hb.grow _ _ h1, fun i hi hin => ?_⟩
   rcases List.mem_append.1 hi with hi | hi
   ·exact hb.grow _ _ (h2 i hi hin)
   ·exact hb.got i (List.mem_singleton.1 hi).symm hin b h1
 closed i hi hn ht b hm := by
  have e : m' i = m i := Classical.byContradiction fun hne => ht (hb.turned i hne)
  rw [e] at hm
  have h1 := h.closed i hi hn (fun hx => ht (hb.todo i hx)) b hm
  exact ⟨fun k hk hkn hs => hb.grow _ _ (h1.1 k hk hkn hs), h1.2⟩
 at' := h.at'
 ca := h.ca
 prv := by
  by_cases e : m' j = m j
  ·rcases h.prv with h1 | h1
   ·exact .inl (hb.todo j h1)
   ·refine .inr fun b hm => ?_
    rw [e] at hm
    have h2 := h1 b hm
    exact ⟨fun k hk hkn hs => hb.grow _ _ (h2.1 k hk hkn hs), h2.2⟩
  ·exact .inl (hb.turned j e)
theorem Lv3.done {W : LwN} {m t : Nat → Mk} {T : List Nat} {j s : Nat} {pre : List Int} (h : Lv3 W j s pre (W.th s) m t T) : Lv2 W j (pre ++ [(s : Int)]) m t T where
 sound := h.sound
 lt := h.lt
 use := h.use
 thr b q ht i hi hin := by
  by_cases e : q = s
  ·subst e
   rcases h.thn b ht with h1 | h1
   ·exact h1 i hi hin
   ·exact h1.2 i hi hin
  ·exact h.thr b q e ht i hi hin
 closed := h.closed
 at' := h.at'
 prv := h.prv
theorem Lv2.done {W : LwN} {m t : Nat → Mk} {T : List Nat} {j : Nat} (h : Lv2 W j (W.ca j) m t T) : LvI W W.n m t T where
 sound := h.sound
 lt := h.lt
 use b i _ hi hu := h.use b i hi hu
 thr := h.thr
 closed i hi hn := by
  by_cases e : i = j
  ·subst e
   rcases h.prv with h1 | h1
   ·exact absurd h1 hn
   ·exact h1
  ·exact h.closed i hi e hn
theorem LvI.all {W : LwN} {m t : Nat → Mk} (h : LvI W W.n m t []) (b i : Nat) (hi : i < W.n) : (m i).getLsbD b = true ↔ Cb W b i := by
 refine ⟨h.sound b i hi, fun hc => ?_⟩
 clear hi
 induction hc with
 | use hi hu => exact h.use b _ hi hi hu
 | next _ hj hi hin hw ih => exact (h.closed _ hj (by simp) b ih).1 _ hi hin hw
 | caught _ hj hs hi hin ih => exact h.thr b _ ((h.closed _ hj (by simp) b ih).2 _ hs) _ hi hin
structure Wts (W : Nat → Bool) (T : List Nat) : Prop where
 iff : ∀ j, W j = true ↔ j ∈ T
 nd : T.Nodup
theorem Wts.push {W : Nat → Bool} {T : List Nat} {p : Nat} (h : Wts W T) (hp : W p = false) : Wts (fun j => if j = p then true else W j) (T ++ [p]) where
 iff j := by
  by_cases e : j = p
  ·subst e; simp
  ·rw [if_neg e]; simp [h.iff j, e]
 nd := by
  rw [List.nodup_append]
  refine ⟨h.nd, by simp, ?_⟩
  intro a ha b hb e
  have := List.mem_singleton.1 hb
  subst this e
  rw [(h.iff a).2 ha] at hp
  cases hp
theorem Wts.pop {W : Nat → Bool} {T : List Nat} {p : Nat} (h : Wts W (T ++ [p])) : Wts (fun j => if j = p then false else W j) T := by
 have hn := List.nodup_append.1 h.nd
 refine ⟨fun j => ?_, hn.1⟩
 by_cases e : j = p
 ·subst e
  simp only [if_true, Bool.false_eq_true, false_iff]
  exact fun hj => hn.2.2 j hj j (by simp) rfl
 ·rw [if_neg e]; simp [h.iff j, e]
theorem Brg.again {n p : Nat} {more : Mk} {m : Nat → Mk} {T : List Nat} (hp : p < n) (h : more &&& ~~~(m p) ≠ 0) (hT : p ∈ T) : Brg n p more m T (brM m p more) T where
 grow := (Brg.yes (T := T) hp h).grow
 got := (Brg.yes (T := T) hp h).got
 only := (Brg.yes (T := T) hp h).only
 turned j hj := by
  unfold brM at hj
  split at hj
  ·rename_i e; subst e; exact hT
  ·exact absurd rfl hj
 todo j hj := hj
 lt h := h
 less := by
  have := zerS_br hp h
  omega
end Go.Proofs.Ytoommeiiadobfaa
