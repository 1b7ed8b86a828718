/- Texts of this claim, joined: FileFacts, FileRef0, FileRef1, FileRef2. -/
import Derived.Test.YtgihfcimngogfaaGreatM2
import Derived.IntWalk
import Derived.Test.YtgihfcimngogfaaGreatM6
namespace Go.Proofs.YtgihfcimngogfaaGreat
open Go Go.RowKit
set_option linter.unusedVariables false
structure GoodC (c : Con) : Prop where
 named : c.kind = 7 → namedB c.text = true
 text : c.text.length < 65536
theorem entAt_mem {l : List Ent} {i k : Nat} {x : Ent} (h : entAt l i k = some x) : x ∈ l := by
 unfold entAt at h
 cases hl : l[i]? with
 | none => rw [hl] at h; cases h
 | some y =>
  rw [hl] at h
  simp only at h
  split at h
  ·cases h
   exact List.mem_of_getElem? hl
  ·cases h
theorem textAt_short {l : List Ent} {i : Nat} {t : Bs} (hs : ∀ x, x ∈ l → x.text.length < 65536) (h : textAt l i = some t) : t.length < 65536 := by
 unfold textAt at h
 obtain ⟨x, h1, rfl⟩ := Option.map_eq_some_iff.1 h
 exact hs x (entAt_mem h1)
theorem classAt_short {l : List Ent} {i : Nat} {t : Bs} (hs : ∀ x, x ∈ l → x.text.length < 65536) (h : classAt l i = some t) : t.length < 65536 := by
 unfold classAt at h
 obtain ⟨x, h1, h2⟩ := Option.bind_eq_some_iff.1 h
 exact textAt_short hs h2
theorem resOne_good {l : List Ent} {x : Ent} (hs : ∀ x, x ∈ l → x.text.length < 65536) (hx : x.text.length < 65536) (h : (resOne l x).1 = 0) : GoodC (resOne l x).2 := by
 unfold resOne at h ⊢
 split at h
 ·rename_i hk
  rw [if_pos hk]
  unfold resText at h ⊢
  cases ht : textAt l x.a with
  | none => rw [ht] at h; simp at h
  | some t =>
   rw [ht] at h
   simp only at h ⊢
   split at h
   ·simp at h
   ·rename_i hn
    rw [if_neg hn]
    refine ⟨fun h7 => ?_, textAt_short hs ht⟩
    have h7' : x.kind = 7 := h7
    cases hb : namedB t
    ·exact absurd ⟨h7', hb⟩ hn
    ·rfl
 ·rename_i hk
  rw [if_neg hk]
  split at h
  ·rename_i hk2
   rw [if_pos hk2]
   unfold resMem at h ⊢
   cases h1 : classAt l x.a with
   | none => rw [h1] at h; simp at h
   | some c =>
    cases h2 : textAt l x.b with
    | none => rw [h1, h2] at h; simp at h
    | some n =>
     cases h3 : textAt l x.d with
     | none => rw [h1, h2, h3] at h; simp at h
     | some t =>
      rw [h1, h2, h3] at h
      simp only at h ⊢
      split at h
      ·simp at h
      ·rename_i hn
       rw [if_neg hn]
       split at h
       ·simp at h
       ·rename_i hn2
        rw [if_neg hn2]
        exact ⟨fun h7 => absurd (show x.kind = 7 from h7) (by omega), classAt_short hs h1⟩
  ·rename_i hk2
   rw [if_neg hk2]
   exact ⟨fun h7 => absurd (show x.kind = 7 from h7) (by omega), hx⟩
theorem resAll_all (P : Con → Prop) (l : List Ent) : ∀ (rest : List Ent) (acc : List Con), (∀ x, x ∈ rest → (resOne l x).1 = 0 → P (resOne l x).2) → (∀ c, c ∈ acc → P c) → (resAll l rest acc).1 = 0 → ∀ c, c ∈ (resAll l rest acc).2 → P c
 | [], acc, _, h2, _ => by rw [resAll_nil]; exact h2
 | x :: rest, acc, h1, h2, h => by
  by_cases hx : (resOne l x).1 = 0
  ·rw [resAll_on l x rest acc hx] at h ⊢
   refine resAll_all P l rest _ (fun y hy => h1 y (List.mem_cons_of_mem _ hy)) (fun c hc => ?_) h
   rcases List.mem_append.1 hc with hc | hc
   ·exact h2 c hc
   ·simp at hc
    subst hc
    exact h1 x List.mem_cons_self hx
  ·rw [resAll_no l x rest acc hx] at h
   exact absurd h hx
theorem rdEnts_whole : ∀ (k : Nat) (s : St) (acc : List Ent), s.2 = false → (rdEnts k s acc).1 = 0 → (rdEnts k s acc).2.2.2 = false
 | 0, s, acc, hs, _ => hs
 | k + 1, s, acc, hs, h => by
  by_cases hx : entX s = 0
  ·rw [rdEnts_on k s acc hx] at h ⊢
   exact rdEnts_whole k _ _ (entX_ok s hx).2 h
  ·rw [rdEnts_no k s acc hx] at h
   exact absurd h hx
theorem poolX_head {s : St} (h : poolX s = 0) : (rdHead s).1 = 0 := by
 unfold poolX at h
 by_cases hx : (rdHead s).1 = 0
 ·exact hx
 ·rw [if_pos hx] at h
  exact absurd h hx
theorem poolS_whole {s : St} (h : poolX s = 0) : (poolS s).2 = false := by
 have hh := poolX_head h
 unfold poolS
 unfold rdHead at hh ⊢
 cases hb : (numS s 2).2
 ·rw [hb] at hh
  simp only [Bool.false_eq_true, if_false] at hh ⊢
  by_cases hn : numN s 2 = 0 ∨ 1000 < numN s 2
  ·rw [if_pos hn] at hh; simp at hh
  ·rw [if_neg hn] at hh ⊢
   exact rdEnts_whole _ _ _ hb hh
 ·rw [hb] at hh; simp at hh
theorem poolL_good {s : St} (h : poolX s = 0) : ∀ c, c ∈ poolL s → GoodC c := by
 have hh := poolX_head h
 unfold poolX at h
 unfold poolL
 rw [if_neg (by omega)] at h ⊢
 obtain ⟨t, h1, _, _, h3⟩ := rdHead_ok s hh
 have hs : ∀ x, x ∈ (rdHead s).2.1 → x.text.length < 65536 := by
  intro x hx
  rw [h1] at hx
  rcases List.mem_cons.1 hx with rfl | hx
  ·exact Nat.zero_lt_succ _
  ·exact (h3 x hx).2
 exact resAll_all GoodC _ _ _ (fun x hx h0 => resOne_good hs (hs x hx) h0) (by simp) h
theorem poolL_small {s : St} (h : poolX s = 0) : (poolL s).length ≤ 1000 := by
 have hh := poolX_head h
 unfold poolX at h
 unfold poolL
 rw [if_neg (by omega)] at h ⊢
 obtain ⟨t, h1, h2, _⟩ := rdHead_ok s hh
 have hlen : ∀ (l rest : List Ent) (acc : List Con), (resAll l rest acc).1 = 0 → (resAll l rest acc).2.length = acc.length + rest.length := by
  intro l rest
  induction rest with
  | nil => intro acc _; rw [resAll_nil]; simp
  | cons x rest ih =>
   intro acc h
   by_cases hx : (resOne l x).1 = 0
   ·rw [resAll_on l x rest acc hx] at h ⊢
    rw [ih _ h]
    simp
    omega
   ·rw [resAll_no l x rest acc hx] at h
    exact absurd h hx
 rw [hlen _ _ _ h, h1]
 simpa using h2
theorem kAt_some {L : List Con} {i k : Nat} {c : Con} (h : kAt L i k = some c) : L[i]? = some c ∧ c.kind = k := by
 unfold kAt at h
 cases hl : L[i]? with
 | none => rw [hl] at h; cases h
 | some y =>
  rw [hl] at h
  simp only at h
  split at h
  ·cases h
   exact ⟨rfl, by assumption⟩
  ·cases h
theorem kAt_none {L : List Con} {i k : Nat} (h : kAt L i k = none) : L.length ≤ i ∨ ∃ c, L[i]? = some c ∧ c.kind ≠ k := by
 unfold kAt at h
 cases hl : L[i]? with
 | none => exact .inl (List.getElem?_eq_none_iff.1 hl)
 | some y =>
  rw [hl] at h
  simp only at h
  split at h
  ·cases h
  ·exact .inr ⟨y, rfl, by assumption⟩
theorem named_arr {t : Bs} (h : namedB t = true) (h1 : t.head? = some 91) : t.drop 1 ≠ [] := by
 intro h2
 cases t with
 | nil => simp at h1
 | cons a r =>
  simp at h1 h2
  subst h1 h2
  revert h
  decide
theorem numP_lt {n : Nat} {s r : Bs} {k : Nat} (h : numP n s = .ok k r) : k < 256 ^ n ∧ n ≤ s.length ∧ r = s.drop n := by
 unfold numP at h
 split at h
 ·cases h
 ·cases h
  refine ⟨Nat.lt_of_lt_of_le (beB_lt _ _ rfl) (Nat.le_of_eq ?_), by omega, rfl⟩
  rw [List.length_take, Nat.min_eq_left (by omega)]
theorem numP_er {n : Nat} {s : Bs} {x : Nat} (h : numP n s = .er x) : x = 11 ∧ s.length < n := by
 unfold numP at h
 split at h
 ·cases h
  exact ⟨rfl, by assumption⟩
 ·cases h
theorem numP_st {n : Nat} {s r : Bs} {k : Nat} (h1 : 1 ≤ n) (h8 : n ≤ 8) (h : numP n s = .ok k r) : numN (s, false) n = k ∧ numS (s, false) n = (r, false) := by
 obtain ⟨_, h2, h3⟩ := numP_lt h
 unfold numP at h
 rw [if_neg (by omega)] at h
 injection h with h4 h5
 rw [numN_yes (by omega), numS_yes (by omega), takeL_yes (by simp; omega), takeS_yes (by simp; omega)]
 exact ⟨by simpa using h4, by simpa using h5⟩
theorem numP_st_er {n : Nat} {s : Bs} {x : Nat} (h1 : 1 ≤ n) (h8 : n ≤ 8) (h : numP n s = .er x) : numN (s, false) n = 0 ∧ numS (s, false) n = ([], true) := by
 obtain ⟨_, h2⟩ := numP_er h
 rw [numN_yes (by omega), numS_yes (by omega), takeL_no (by simp; omega), takeS_no (by simp; omega)]
 exact ⟨rfl, rfl⟩
theorem bits16 (f b : Nat) (hf : f < 65536) (hb : b < 65536) : bits .andNot .i64 (f : Int) (b : Int) = 0 ↔ f &&& b = f := by
 show IntKind.i64.wrap ((BitVec.ofInt 64 f &&& ~~~ BitVec.ofInt 64 b).toNat : Nat) = 0 ↔ _
 rw [BitVec.ofInt_natCast, BitVec.ofInt_natCast]
 have hle : (BitVec.ofNat 64 f &&& ~~~ BitVec.ofNat 64 b).toNat ≤ f := by
  rw [BitVec.toNat_and, BitVec.toNat_ofNat, Nat.mod_eq_of_lt (by omega)]
  exact Nat.and_le_left
 rw [IntWalk.i64_in _ (by omega)]
 have h0 : (((BitVec.ofNat 64 f &&& ~~~ BitVec.ofNat 64 b).toNat : Nat) : Int) = 0 ↔ BitVec.ofNat 64 f &&& ~~~ BitVec.ofNat 64 b = 0#64 := by
  constructor
  ·intro h
   apply BitVec.eq_of_toNat_eq
   simpa using h
  ·intro h
   rw [h]
   rfl
 rw [h0]
 constructor
 ·intro h
  apply Nat.eq_of_testBit_eq
  intro i
  rw [Nat.testBit_and]
  have hi := congrArg (fun x => x.getLsbD i) h
  simp only [BitVec.getLsbD_and, BitVec.getLsbD_not, BitVec.getLsbD_ofNat] at hi
  by_cases hi64 : i < 64
  ·simp [hi64] at hi
   cases hft : f.testBit i
   ·rfl
   ·simpa [hft] using hi hft
  ·have : f.testBit i = false := Nat.testBit_lt_two_pow (Nat.lt_of_lt_of_le (by omega : f < 2 ^ 64) (Nat.pow_le_pow_right (by omega) (by omega)))
   rw [this]
   rfl
 ·intro h
  apply BitVec.eq_of_getLsbD_eq
  intro i hi
  simp only [BitVec.getLsbD_and, BitVec.getLsbD_not, BitVec.getLsbD_ofNat]
  have := congrArg (fun x => x.testBit i) h
  simp only [Nat.testBit_and] at this
  cases hft : f.testBit i
  ·simp
  ·rw [hft] at this
   simp at this
   simp [this]
theorem and16 (f b : Nat) (hf : f < 65536) (hb : b < 65536) : bits .and .i64 (f : Int) (b : Int) = ((f &&& b : Nat) : Int) := by
 show IntKind.i64.wrap ((BitVec.ofInt 64 f &&& BitVec.ofInt 64 b).toNat : Nat) = _
 have hle : f &&& b ≤ f := Nat.and_le_left
 rw [BitVec.ofInt_natCast, BitVec.ofInt_natCast, BitVec.toNat_and, BitVec.toNat_ofNat, BitVec.toNat_ofNat, Nat.mod_eq_of_lt (by omega), Nat.mod_eq_of_lt (by omega), IntWalk.i64_in _ (by omega)]
end Go.Proofs.YtgihfcimngogfaaGreat
namespace Go.Proofs.YtgihfcimngogfaaGreat
open Go Go.RowKit
set_option linter.unusedVariables false
abbrev Sg := Nat × St
def wrS (x : Nat) (σ : Sg) : Sg := if σ.1 = 0 then (x, σ.2) else σ
def rNum (n : Nat) (σ : Sg) : Nat × Sg := if σ.1 ≠ 0 then (0, σ) else if (numS σ.2 n).2 then (0, (11, numS σ.2 n)) else (numN σ.2 n, (0, numS σ.2 n))
def rCnt (n most : Nat) (σ : Sg) : Nat × Sg := if most < (rNum n σ).1 then (0, wrS 2 (rNum n σ).2) else rNum n σ
def kAt1 (L : List Con) (i k : Nat) : Option Con := if i = 0 then none else kAt L i k
def rTxt (L : List Con) (k : Nat) (σ : Sg) : Bs × Sg :=
 if (rNum 2 σ).2.1 ≠ 0 then ([], (rNum 2 σ).2) else match kAt1 L (rNum 2 σ).1 k with
 | some c => (c.text, (rNum 2 σ).2)
 | none => ([], (12, (rNum 2 σ).2.2))
def rCls (L : List Con) (σ : Sg) : Bs × Sg := if (rTxt L 7 σ).1.head? = some 91 then ((rTxt L 7 σ).1, wrS 20 (rTxt L 7 σ).2) else rTxt L 7 σ
def rFlg (b : Nat) (σ : Sg) : Nat × Sg := if (rNum 2 σ).1 &&& b = (rNum 2 σ).1 then rNum 2 σ else ((rNum 2 σ).1, wrS 22 (rNum 2 σ).2)
def memW (m : Bool) (a d : Bs) (σ : Sg) : Sg :=
 (fun τ : Sg => if (m = true ∧ (metB d).isSome = false) ∨ (m = false ∧ typeB d = false) then wrS 21 τ else τ) (if nameB a m = false then wrS 20 σ else σ)
def rMem (L : List Con) (m : Bool) (σ : Sg) : (Bs × Bs) × Sg :=
 if (rTxt L 1 (rTxt L 1 σ).2).2.1 ≠ 0 then (([], []), (rTxt L 1 (rTxt L 1 σ).2).2)
 else (((rTxt L 1 σ).1, (rTxt L 1 (rTxt L 1 σ).2).1), memW m (rTxt L 1 σ).1 (rTxt L 1 (rTxt L 1 σ).2).1 (rTxt L 1 (rTxt L 1 σ).2).2)
theorem rNum_lt (n : Nat) (σ : Sg) (hn : n ≤ 2) : (rNum n σ).1 < 65536 := by
 unfold rNum
 split
 ·omega
 split
 ·omega
 ·have := numN_lt σ.2 n 2 hn
  show numN σ.2 n < 65536
  omega
theorem wrS_bad (x : Nat) {σ : Sg} (h : σ.1 ≠ 0) : wrS x σ = σ := by unfold wrS; rw [if_neg h]
theorem wrS_new (x : Nat) {σ : Sg} (h : σ.1 = 0) : wrS x σ = (x, σ.2) := by unfold wrS; rw [if_pos h]
theorem rNum_bad (n : Nat) {σ : Sg} (h : σ.1 ≠ 0) : rNum n σ = (0, σ) := by unfold rNum; rw [if_pos h]
theorem rTxt_len {L : List Con} {k : Nat} {σ : Sg} (hg : ∀ c, c ∈ L → GoodC c) : (rTxt L k σ).1.length < 65536 := by
 unfold rTxt
 split
 ·exact Nat.zero_lt_succ _
 ·cases hk : kAt1 L (rNum 2 σ).1 k with
  | none => exact Nat.zero_lt_succ _
  | some c =>
   unfold kAt1 at hk
   split at hk
   ·cases hk
   ·exact (hg c (List.mem_of_getElem? (kAt_some hk).1)).text
end Go.Proofs.YtgihfcimngogfaaGreat
namespace Go.Proofs.YtgihfcimngogfaaGreat
open Go.RowKit Go
set_option linter.unusedVariables false
structure Rc where
 B : Nat
 M : Nat
 g : Nat
 v : Value
 pv : Value
 Lb : Bs
 L : List Con
abbrev tlR (pv : Value) (x : Nat) : Tl := ⟨94, #[pv, .int .i64 x]⟩
structure Rf (ρ : Rc) (σ : Sg) (w : World) : Prop where
 d : DocS (tlR ρ.pv σ.1) ρ.B w ρ.M ρ.v ρ.Lb σ.2
 pool : σ.1 = 0 → ρ.pv = .slice (some ⟨ρ.g, 0, none⟩) ρ.L.length ρ.L.length ∧ RowsAt w ρ.g 39 5 (ρ.L.map conV) ∧ ρ.g ≠ ρ.M
 good : ∀ c, c ∈ ρ.L → GoodC c
 small : ρ.L.length ≤ 1000
theorem app_at2 (a r : Array Value) (i : Nat) (v : Value) (h : r[i]? = some v) : (a ++ r)[a.size + i]? = some v := by
 rw [Array.getElem?_append_right (by omega), Nat.add_sub_cancel_left]
 exact h
theorem Rf.c2 {ρ : Rc} {σ : Sg} {w : World} (h : Rf ρ σ w) : w.cell? ⟨ρ.M, 2, none⟩ = some (.bool σ.2.2) := h.d.doc.c2
theorem Rf.c3 {ρ : Rc} {σ : Sg} {w : World} (h : Rf ρ σ w) : w.cell? ⟨ρ.M, 3, none⟩ = some ρ.pv := heap_cell h.d.doc (app_at2 #[ρ.v, .int .i64 (ρ.Lb.length - σ.2.1.length : Nat), .bool σ.2.2] _ 0 _ rfl)
theorem Rf.c4 {ρ : Rc} {σ : Sg} {w : World} (h : Rf ρ σ w) : w.cell? ⟨ρ.M, 4, none⟩ = some (.int .i64 σ.1) := heap_cell h.d.doc (app_at2 #[ρ.v, .int .i64 (ρ.Lb.length - σ.2.1.length : Nat), .bool σ.2.2] _ 1 _ rfl)
theorem Rf.fz {ρ : Rc} {σ : Sg} {w : World} (h : Rf ρ σ w) (i : Nat) : w.frozen? ⟨ρ.M, i, none⟩ = false := h.d.doc.fz i
theorem Rf.lt {ρ : Rc} {σ : Sg} {w : World} (h : Rf ρ σ w) : ρ.M < w.heap.size := h.d.doc.lt
theorem Rf.drewN {ρ : Rc} {σ : Sg} {w : World} (h : Rf ρ σ w) (n : Nat) : Rf ρ σ (w.drewN n) := ⟨h.d.drewN n, h.pool, h.good, h.small⟩
theorem Rf.alloc {ρ : Rc} {σ : Sg} {w : World} (h : Rf ρ σ w) (o : Obj) : Rf ρ σ (w.alloc o) := ⟨h.d.alloc o, fun h0 => ⟨(h.pool h0).1, (h.pool h0).2.1.alloc o, (h.pool h0).2.2⟩, h.good, h.small⟩
theorem Rf.setErr {ρ : Rc} {σ : Sg} {w : World} (h : Rf ρ σ w) (x : Nat) (hx : x ≠ 0) : Rf ρ (x, σ.2) (w.setCell ⟨ρ.M, 4, none⟩ (.int .i64 x)) := by
 have ho : Only ρ.M w (w.setCell ⟨ρ.M, 4, none⟩ (.int .i64 x)) := (Only.refl ρ.M w).own 4 _
 refine ⟨⟨?_, h.d.le, h.d.suf, rdB_below h.d.rd h.d.low (ho.below h.d.base h.d.bw), h.d.base, h.d.low, Nat.le_trans h.d.bw ho.size⟩, fun h0 => absurd h0 hx, h.good, h.small⟩
 unfold Doc
 rw [heap_set h.d.doc _]
 rfl
def RO (ρ : Rc) (σ : Sg) (val : Value) (w : World) (e : Ending) (w' : World) : Prop := e = .returned val ∧ Rf ρ σ w' ∧ Only ρ.M w w'
set_option maxHeartbeats 1000000 in
set_option maxRecDepth 100000 in
theorem rwrong_any (ρ : Rc) (σ : Sg) (x : Nat) (x' : Int) (hx : x ≠ 0) (w : World) (h : Hid (Rf ρ σ w)) (hxx : Hid (x' = x)) :
  Calls Tryz.prog 49 #[.pointer (some ⟨ρ.M, 0, none⟩), .int .i64 x'] w (RO ρ (wrS x σ) (.tuple #[]) w) := by
 have c4 := h.out.c4
 have f4 := h.out.fz 4
 rw [hxx.out]
 by_cases h0 : σ.1 = 0
 ·have H2 := lhid (h.out.setErr x hx)
  rw [wrS_new x h0]
  rw [h0] at c4
  have c4' : w.cell? ⟨ρ.M, 4, none⟩ = some (.int .i64 0) := c4
  clear c4
  go_enter Tryz.func49, Tryz.ntmps49
  go_wp2_with fail
  go_end0
  exact ⟨rfl, H2.out, (Only.refl ρ.M w).own 4 _⟩
 ·rw [wrS_bad x h0]
  have t : ((σ.1 : Int) == 0) = false := by rw [beq_eq_false_iff_ne]; omega
  go_enter Tryz.func49, Tryz.ntmps49
  go_wp2_with fail
  go_end0
  exact ⟨rfl, h.out, Only.refl _ _⟩
set_option maxHeartbeats 1000000 in
set_option maxRecDepth 100000 in
theorem rnum_any (ρ : Rc) (σ : Sg) (n : Nat) (n' : Int) (w : World) (h : Hid (Rf ρ σ w)) (hn : n ≤ 2) (hnn : Hid (n' = n)) :
  Calls Tryz.prog 77 #[.pointer (some ⟨ρ.M, 0, none⟩), .int .i64 n'] w (RO ρ (rNum n σ).2 (.int .i64 (rNum n σ).1) w) := by
 have c4 := h.out.c4
 by_cases h0 : σ.1 = 0
 ·have t : ((σ.1 : Int) != 0) = false := by rw [h0]; rfl
  have H0 := lhid h0
  have hlt := numN_lt σ.2 n 2 hn
  have hw : wrap64 ((numN σ.2 n : Nat) : Int) = numN σ.2 n := IntWalk.wrap64_in _ (by omega)
  rw [hnn.out]
  clear h0
  go_enter Tryz.func77, Tryz.ntmps77
  go_wp2_with fail
  with_reducible refine (refNum_any (tlR ρ.pv σ.1) ρ.B ρ.M ρ.v ρ.Lb σ.2 n _ h.out.d).mono ?_
  rintro e w1 ⟨rfl, hd, ho⟩
  have HR : Hid (Rf ρ (0, numS σ.2 n) w1) := lhid ⟨by rw [← H0.out]; exact hd, fun _ => ⟨(h.out.pool H0.out).1, (h.out.pool H0.out).2.1.keep ho (h.out.pool H0.out).2.2, (h.out.pool H0.out).2.2⟩, h.out.good, h.out.small⟩
  have HO := lhid ho
  have d2 := HR.out.c2
  clear hd ho
  cases hb : (numS σ.2 n).2 with
  | true =>
   have HE : Hid (rNum n σ = (0, (11, numS σ.2 n))) := lhid (by unfold rNum; rw [if_neg (by rw [H0.out]; simp), if_pos hb])
   have d2' : w1.cell? ⟨ρ.M, 2, none⟩ = some (.bool true) := by rw [← hb]; exact d2
   clear hb d2
   go_wp2_with fail
   with_reducible refine (rwrong_any ρ _ 11 11 (by decide) _ HR (lhid rfl)).mono ?_
   rintro e w2 ⟨rfl, hr, ho⟩
   have HR2 := lhid hr
   have HO2 := lhid (HO.out.trans ho)
   clear hr ho
   go_wp2_with fail
   go_ret
   rw [HE.out]
   exact ⟨rfl, HR2.out, HO2.out⟩
  | false =>
   have HE : Hid (rNum n σ = (numN σ.2 n, (0, numS σ.2 n))) := lhid (by unfold rNum; rw [if_neg (by rw [H0.out]; simp), if_neg (by rw [hb]; simp)])
   have d2' : w1.cell? ⟨ρ.M, 2, none⟩ = some (.bool false) := by rw [← hb]; exact d2
   clear hb d2
   go_wp2_with fail
   go_ret
   rw [HE.out]
   exact ⟨rfl, HR.out, HO.out⟩
 ·have t : ((σ.1 : Int) != 0) = true := by rw [bne_iff_ne]; omega
  rw [rNum_bad n h0]
  go_enter Tryz.func77, Tryz.ntmps77
  go_wp2_with fail
  go_ret
  exact ⟨rfl, h.out, Only.refl _ _⟩
end Go.Proofs.YtgihfcimngogfaaGreat
namespace Go.Proofs.YtgihfcimngogfaaGreat
open Go.RowKit Go
set_option linter.unusedVariables false
set_option maxHeartbeats 1000000 in
set_option maxRecDepth 100000 in
theorem rcount_any (ρ : Rc) (σ : Sg) (n most : Nat) (n' m' : Int) (w : World) (h : Hid (Rf ρ σ w)) (hn : n ≤ 2) (hnn : Hid (n' = n)) (hm : Hid (m' = most)) :
  Calls Tryz.prog 51 #[.pointer (some ⟨ρ.M, 0, none⟩), .int .i64 n', .int .i64 m'] w (RO ρ (rCnt n most σ).2 (.int .i64 (rCnt n most σ).1) w) := by
 obtain ⟨⟨k, τ⟩, hk⟩ : ∃ p, rNum n σ = p := ⟨_, rfl⟩
 have HK := lhid hk
 rw [hm.out]
 by_cases hlt : most < k
 ·have HE : Hid (rCnt n most σ = (0, wrS 2 τ)) := lhid (by unfold rCnt; rw [hk, if_pos hlt])
  have t : (most : Int) < k := by omega
  clear hk hlt
  go_enter Tryz.func51, Tryz.ntmps51
  go_wp2_with fail
  with_reducible refine (rnum_any ρ σ n n' _ h hn hnn).mono ?_
  rintro e w1 ⟨rfl, hr, ho⟩
  rw [HK.out] at hr ⊢
  have HR := lhid hr
  have HO := lhid ho
  clear hr ho
  go_wp2_with fail
  with_reducible refine (rwrong_any ρ τ 2 2 (by decide) _ HR (lhid rfl)).mono ?_
  rintro e w2 ⟨rfl, hr, ho⟩
  have HR2 := lhid hr
  have HO2 := lhid (HO.out.trans ho)
  clear hr ho
  go_wp2_with fail
  go_ret
  rw [HE.out]
  exact ⟨rfl, HR2.out, HO2.out⟩
 ·have HE : Hid (rCnt n most σ = (k, τ)) := lhid (by unfold rCnt; rw [hk, if_neg hlt])
  have t : ¬ (most : Int) < k := by omega
  clear hk hlt
  go_enter Tryz.func51, Tryz.ntmps51
  go_wp2_with fail
  with_reducible refine (rnum_any ρ σ n n' _ h hn hnn).mono ?_
  rintro e w1 ⟨rfl, hr, ho⟩
  rw [HK.out] at hr ⊢
  have HR := lhid hr
  have HO := lhid ho
  clear hr ho
  go_wp2_with fail
  go_ret
  rw [HE.out]
  exact ⟨rfl, HR.out, HO.out⟩
set_option maxHeartbeats 1000000 in
set_option maxRecDepth 100000 in
theorem rflags_any (ρ : Rc) (σ : Sg) (b : Nat) (b' : Int) (hb : b < 65536) (w : World) (h : Hid (Rf ρ σ w)) (hbb : Hid (b' = b)) :
  Calls Tryz.prog 48 #[.pointer (some ⟨ρ.M, 0, none⟩), .int .i64 b'] w (RO ρ (rFlg b σ).2 (.int .i64 (rFlg b σ).1) w) := by
 have hk16 := rNum_lt 2 σ (Nat.le_refl 2)
 obtain ⟨⟨k, τ⟩, hk⟩ : ∃ p, rNum 2 σ = p := ⟨_, rfl⟩
 have HK := lhid hk
 rw [hk] at hk16
 have ha := and16 k b hk16 hb
 rw [hbb.out]
 by_cases hlt : k &&& b = k
 ·have HE : Hid (rFlg b σ = (k, τ)) := lhid (by unfold rFlg; rw [hk]; simp only []; rw [if_pos hlt])
  have t : (bits .and .i64 (k : Int) (b : Int) != k) = false := by rw [ha, hlt]; simp
  clear hk hlt ha
  go_enter Tryz.func48, Tryz.ntmps48
  go_wp2_with fail
  with_reducible refine (rnum_any ρ σ 2 2 _ h (Nat.le_refl 2) (lhid rfl)).mono ?_
  rintro e w1 ⟨rfl, hr, ho⟩
  rw [HK.out] at hr ⊢
  have HR := lhid hr
  have HO := lhid ho
  clear hr ho
  go_wp2_with fail
  go_ret
  rw [HE.out]
  exact ⟨rfl, HR.out, HO.out⟩
 ·have HE : Hid (rFlg b σ = (k, wrS 22 τ)) := lhid (by unfold rFlg; rw [hk]; simp only []; rw [if_neg hlt])
  have t : (bits .and .i64 (k : Int) (b : Int) != k) = true := by rw [ha, bne_iff_ne]; omega
  clear hk hlt ha
  go_enter Tryz.func48, Tryz.ntmps48
  go_wp2_with fail
  with_reducible refine (rnum_any ρ σ 2 2 _ h (Nat.le_refl 2) (lhid rfl)).mono ?_
  rintro e w1 ⟨rfl, hr, ho⟩
  rw [HK.out] at hr ⊢
  have HR := lhid hr
  have HO := lhid ho
  clear hr ho
  go_wp2_with fail
  with_reducible refine (rwrong_any ρ τ 22 22 (by decide) _ HR (lhid rfl)).mono ?_
  rintro e w2 ⟨rfl, hr, ho⟩
  have HR2 := lhid hr
  have HO2 := lhid (HO.out.trans ho)
  clear hr ho
  go_wp2_with fail
  go_ret
  rw [HE.out]
  exact ⟨rfl, HR2.out, HO2.out⟩
set_option maxHeartbeats 4000000 in
set_option maxRecDepth 100000 in
theorem rtext_any (ρ : Rc) (σ : Sg) (k : Nat) (k' : Int) (w : World) (h : Hid (Rf ρ σ w)) (hkk : Hid (k' = k)) :
  Calls Tryz.prog 78 #[.pointer (some ⟨ρ.M, 0, none⟩), .int .i64 k'] w (RO ρ (rTxt ρ.L k σ).2 (.string (tx (rTxt ρ.L k σ).1)) w) := by
 obtain ⟨⟨i, τ⟩, hi⟩ : ∃ p, rNum 2 σ = p := ⟨_, rfl⟩
 have HK := lhid hi
 by_cases h0 : τ.1 = 0
 ·cases hc : kAt1 ρ.L i k with
  | none =>
   have HE : Hid (rTxt ρ.L k σ = ([], (12, τ.2))) := lhid (by unfold rTxt; rw [hi]; simp only []; rw [if_neg (by rw [h0]; simp), hc])
   have hwr : wrS 12 τ = (12, τ.2) := wrS_new 12 h0
   have HWR := lhid hwr
   have H0 := lhid h0
   have t0 : ((τ.1 : Int) != 0) = false := by rw [h0]; rfl
   have hcase : i = 0 ∨ (0 < i ∧ ρ.L.length ≤ i) ∨ (0 < i ∧ ∃ x, ρ.L[i]? = some x ∧ x.kind ≠ k) := by
    by_cases hi0 : i = 0
    ·exact .inl hi0
    ·unfold kAt1 at hc
     rw [if_neg hi0] at hc
     rcases kAt_none hc with h1 | h1
     ·exact .inr (.inl ⟨by omega, h1⟩)
     ·exact .inr (.inr ⟨by omega, h1⟩)
   clear hc hwr h0 hi
   rcases hcase with rfl | ⟨hpos, hl⟩ | ⟨hpos, x, hx, hne⟩
   ·go_enter Tryz.func78, Tryz.ntmps78
    go_wp2_with fail
    with_reducible refine (rnum_any ρ σ 2 2 _ h (Nat.le_refl 2) (lhid rfl)).mono ?_
    rintro e w1 ⟨rfl, hr, ho⟩
    rw [HK.out] at hr ⊢
    have HR := lhid hr
    have HO := lhid ho
    have c4 := hr.c4
    clear hr ho
    go_wp2_with fail
    with_reducible refine (rwrong_any ρ τ 12 12 (by decide) _ HR (lhid rfl)).mono ?_
    rintro e w2 ⟨rfl, hr, ho⟩
    rw [HWR.out] at hr
    have HR2 := lhid hr
    have HO2 := lhid (HO.out.trans ho)
    clear hr ho
    go_wp2_with fail
    go_ret
    rw [HE.out]
    exact ⟨rfl, HR2.out, HO2.out⟩
   ·have t1 : ¬ (i : Int) < 1 := by omega
    have t2 : (ρ.L.length : Int) ≤ i := by omega
    go_enter Tryz.func78, Tryz.ntmps78
    go_wp2_with fail
    with_reducible refine (rnum_any ρ σ 2 2 _ h (Nat.le_refl 2) (lhid rfl)).mono ?_
    rintro e w1 ⟨rfl, hr, ho⟩
    rw [HK.out] at hr ⊢
    have HR := lhid hr
    have HO := lhid ho
    have c4 := hr.c4
    have c3 := hr.c3
    have hpl := hr.pool H0.out
    rw [hpl.1] at c3
    clear hr ho hpl
    go_wp2_with fail
    with_reducible refine (rwrong_any ρ τ 12 12 (by decide) _ HR (lhid rfl)).mono ?_
    rintro e w2 ⟨rfl, hr, ho⟩
    rw [HWR.out] at hr
    have HR2 := lhid hr
    have HO2 := lhid (HO.out.trans ho)
    clear hr ho
    go_wp2_with fail
    go_ret
    rw [HE.out]
    exact ⟨rfl, HR2.out, HO2.out⟩
   ·have t1 : ¬ (i : Int) < 1 := by omega
    have hil := (List.getElem?_eq_some_iff.1 hx).1
    have t2 : ¬ (ρ.L.length : Int) ≤ i := by omega
    have t2' : (i : Int) < ρ.L.length := by omega
    have t3 : ((x.kind : Int) != k') = true := by rw [bne_iff_ne, hkk.out]; omega
    have HXX := lhid hx
    clear hx hne
    go_enter Tryz.func78, Tryz.ntmps78
    go_wp2_with fail
    with_reducible refine (rnum_any ρ σ 2 2 _ h (Nat.le_refl 2) (lhid rfl)).mono ?_
    rintro e w1 ⟨rfl, hr, ho⟩
    rw [HK.out] at hr ⊢
    have HR := lhid hr
    have HO := lhid ho
    have c4 := hr.c4
    have c3 := hr.c3
    have hpl := hr.pool H0.out
    rw [hpl.1] at c3
    obtain ⟨a0, a1, a2, a3, a4⟩ := con_at hpl.2.1 HXX.out
    clear hr ho hpl a1 a2 a3 a4
    go_wp2_with fail
    with_reducible refine (rwrong_any ρ τ 12 12 (by decide) _ HR (lhid rfl)).mono ?_
    rintro e w2 ⟨rfl, hr, ho⟩
    rw [HWR.out] at hr
    have HR2 := lhid hr
    have HO2 := lhid (HO.out.trans ho)
    clear hr ho
    go_wp2_with fail
    go_ret
    rw [HE.out]
    exact ⟨rfl, HR2.out, HO2.out⟩
  | some c =>
   have HE : Hid (rTxt ρ.L k σ = (c.text, τ)) := lhid (by unfold rTxt; rw [hi]; simp only []; rw [if_neg (by rw [h0]; simp), hc])
   have H0 := lhid h0
   have t0 : ((τ.1 : Int) != 0) = false := by rw [h0]; rfl
   unfold kAt1 at hc
   by_cases hi0 : i = 0
   ·rw [if_pos hi0] at hc; cases hc
   rw [if_neg hi0] at hc
   obtain ⟨hx, hxk⟩ := kAt_some hc
   have t1 : ¬ (i : Int) < 1 := by omega
   have hil := (List.getElem?_eq_some_iff.1 hx).1
   have t2 : ¬ (ρ.L.length : Int) ≤ i := by omega
   have t2' : (i : Int) < ρ.L.length := by omega
   have t3 : ((c.kind : Int) != k') = false := by rw [bne_eq_false_iff_eq, hkk.out]; omega
   have HXX := lhid hx
   clear hx hxk hc h0 hi
   go_enter Tryz.func78, Tryz.ntmps78
   go_wp2_with fail
   with_reducible refine (rnum_any ρ σ 2 2 _ h (Nat.le_refl 2) (lhid rfl)).mono ?_
   rintro e w1 ⟨rfl, hr, ho⟩
   rw [HK.out] at hr ⊢
   have HR := lhid hr
   have HO := lhid ho
   have c4 := hr.c4
   have c3 := hr.c3
   have hpl := hr.pool H0.out
   rw [hpl.1] at c3
   obtain ⟨a0, a1, a2, a3, a4⟩ := con_at hpl.2.1 HXX.out
   clear hr ho hpl a1 a3 a4
   go_wp2_with fail
   go_ret
   rw [HE.out]
   exact ⟨rfl, HR.out, HO.out⟩
 ·have HE : Hid (rTxt ρ.L k σ = ([], τ)) := lhid (by unfold rTxt; rw [hi]; simp only []; rw [if_pos h0])
  have t0 : ((τ.1 : Int) != 0) = true := by rw [bne_iff_ne]; omega
  clear hi h0
  go_enter Tryz.func78, Tryz.ntmps78
  go_wp2_with fail
  with_reducible refine (rnum_any ρ σ 2 2 _ h (Nat.le_refl 2) (lhid rfl)).mono ?_
  rintro e w1 ⟨rfl, hr, ho⟩
  rw [HK.out] at hr ⊢
  have HR := lhid hr
  have HO := lhid ho
  have c4 := hr.c4
  clear hr ho
  go_wp2_with fail
  go_ret
  rw [HE.out]
  exact ⟨rfl, HR.out, HO.out⟩
end Go.Proofs.YtgihfcimngogfaaGreat
