/- Texts of this claim, joined: FileIn, FileSameC. -/
import Derived.Test.YtgihfcimngogfaaGreatM2
import Derived.Test.YtgihfcimngogfaaGreatM1
import Derived.Test.YtgihfcimngogfaaGreatM6
import Derived.Test.YtgihfcimngogfaaGreatJPoolDoc
import Derived.Laws.IdiomStrings
import Derived.Test.YtgihfcimngogfaaGreatJPoolTake
namespace Go.Proofs.YtgihfcimngogfaaGreat
open Go.RowKit Go
set_option linter.unusedVariables false
structure CoI where
 kind : Int
 num : Int
 text : Bs
 name : Bs
 desc : Bs
structure FlI where
 flags : Int
 name : Bs
 desc : Bs
structure RwI where
 fr : Int
 too : Int
 at_ : Int
 cls : Bs
structure FrI where
 pc : Int
 locals : List Bs
 stack : List Bs
structure MeI where
 flags : Int
 name : Bs
 desc : Bs
 stack : Int
 locals : Int
 code : Bs
 rows : List RwI
 frames : List FrI
structure ClI where
 flags : Int
 name : Bs
 super : Bs
 ifaces : List Bs
 pool : List CoI
 fields : List FlI
 methods : List MeI
def coI (c : Con) : CoI := ⟨c.kind, c.num, c.text, c.name, c.desc⟩
def flI (f : Fld) : FlI := ⟨f.flags, f.name, f.desc⟩
def rwI (r : Rw) : RwI := ⟨r.fr, r.to, r.at_, r.cls⟩
def frI (f : Frm) : FrI := ⟨f.pc, f.locals, f.stack⟩
def meI (m : Met) : MeI := ⟨m.flags, m.name, m.desc, m.stack, m.locals, m.code, m.rows.map rwI, m.frames.map frI⟩
def clI (c : Cls) : ClI := ⟨c.flags, c.name, c.super, c.ifaces, c.pool.map coI, c.fields.map flI, c.methods.map meI⟩
def I64 (n : Int) : Prop := -9223372036854775808 ≤ n ∧ n ≤ 9223372036854775807
def RdL {α : Type} (k : Nat) (E : World → α → List Value → Prop) (w : World) (v : Value) (l : List α) : Prop :=
 ∃ A cap, v = .slice A l.length cap ∧ l.length ≤ 140737488355328 ∧ ∀ (i : Nat) (a : α), l[i]? = some a → ∃ g o c, A = some ⟨g, o, none⟩ ∧ E w a c ∧ ∀ (j : Nat) u, c[j]? = some u → w.cell? ⟨g, o + i * k + j, none⟩ = some u
def StIE (_ : World) (t : Bs) (c : List Value) : Prop := c = [.string (tx t)]
def ByIE (_ : World) (b : UInt8) (c : List Value) : Prop := c = [.int .u8 (b.toNat : Int)]
def CoIE (_ : World) (x : CoI) (c : List Value) : Prop := c = [.int .i64 x.kind, .int .i64 x.num, .string (tx x.text), .string (tx x.name), .string (tx x.desc)]
def FlIE (_ : World) (f : FlI) (c : List Value) : Prop := c = [.int .i64 f.flags, .string (tx f.name), .string (tx f.desc)]
def RwIE (_ : World) (r : RwI) (c : List Value) : Prop := c = [.int .i64 r.fr, .int .i64 r.too, .int .i64 r.at_, .string (tx r.cls)]
def FrIE (w : World) (f : FrI) (c : List Value) : Prop := ∃ a b, c = [.int .i64 f.pc, a, b] ∧ RdL 1 StIE w a f.locals ∧ RdL 1 StIE w b f.stack
def MeIE (w : World) (m : MeI) (c : List Value) : Prop := ∃ a b d, c = [.int .i64 m.flags, .string (tx m.name), .string (tx m.desc), .int .i64 m.stack, .int .i64 m.locals, a, b, d] ∧ RdL 1 ByIE w a m.code ∧ RdL 4 RwIE w b m.rows ∧ RdL 3 FrIE w d m.frames
def ClIV (w : World) (c : ClI) (v : Value) : Prop := ∃ a p b d, v = .agg #[.int .i64 c.flags, .string (tx c.name), .string (tx c.super), a, p, b, d] ∧ RdL 1 StIE w a c.ifaces ∧ RdL 5 CoIE w p c.pool ∧ RdL 3 FlIE w b c.fields ∧ RdL 8 MeIE w d c.methods
theorem cell_lt {w : World} {p : Addr} {u : Value} (h : w.cell? p = some u) : p.block < w.heap.size := by
 unfold World.cell? at h
 cases hb : w.heap[p.block]? with
 | none => rw [hb] at h; simp at h
 | some o => exact (Array.getElem?_eq_some_iff.1 hb).1
def Kept {α : Type} (E : World → α → List Value → Prop) : Prop := ∀ w w' a c, Below w.heap.size w w' → E w a c → E w' a c
theorem RdL.below {α : Type} {k : Nat} {E : World → α → List Value → Prop} (hE : Kept E) {w w' : World} {v : Value} {l : List α} (h : RdL k E w v l) (hb : Below w.heap.size w w') : RdL k E w' v l := by
 obtain ⟨A, cap, h1, h2, h3⟩ := h
 refine ⟨A, cap, h1, h2, fun i a hi => ?_⟩
 obtain ⟨g, o, c, h4, h5, h6⟩ := h3 i a hi
 exact ⟨g, o, c, h4, hE _ _ _ _ hb h5, fun j u hj => (hb.cell (p := ⟨g, o + i * k + j, none⟩) (cell_lt (h6 j u hj))).trans (h6 j u hj)⟩
theorem kept_pure {α : Type} (E : World → α → List Value → Prop) (h : ∀ w w', E w = E w') : Kept E := fun w w' a c _ hc => by rw [h w' w]; exact hc
theorem kept_st : Kept StIE := kept_pure _ fun _ _ => rfl
theorem kept_by : Kept ByIE := kept_pure _ fun _ _ => rfl
theorem kept_co : Kept CoIE := kept_pure _ fun _ _ => rfl
theorem kept_fl : Kept FlIE := kept_pure _ fun _ _ => rfl
theorem kept_rw : Kept RwIE := kept_pure _ fun _ _ => rfl
theorem kept_fr : Kept FrIE := by
 rintro w w' f c hb ⟨a, b, rfl, h1, h2⟩
 exact ⟨a, b, rfl, h1.below kept_st hb, h2.below kept_st hb⟩
theorem kept_me : Kept MeIE := by
 rintro w w' f c hb ⟨a, b, d, rfl, h1, h2, h3⟩
 exact ⟨a, b, d, rfl, h1.below kept_by hb, h2.below kept_rw hb, h3.below kept_fr hb⟩
theorem ClIV.below {w w' : World} {c : ClI} {v : Value} (h : ClIV w c v) (hb : Below w.heap.size w w') : ClIV w' c v := by
 obtain ⟨a, p, b, d, rfl, h1, h2, h3, h4⟩ := h
 exact ⟨a, p, b, d, rfl, h1.below kept_st hb, h2.below kept_co hb, h3.below kept_fl hb, h4.below kept_me hb⟩
theorem rdL_nil {α : Type} (k : Nat) (E : World → α → List Value → Prop) (w : World) : RdL k E w (.slice none 0 0) [] := ⟨none, 0, rfl, Nat.zero_le _, fun i a h => by simp at h⟩
theorem RdL.shape {α : Type} {k : Nat} {E : World → α → List Value → Prop} {w : World} {v : Value} {l : List α} (h : RdL k E w v l) : ∃ A cap, v = .slice A l.length cap := by
 obtain ⟨A, cap, h1, _⟩ := h
 exact ⟨A, cap, h1⟩
theorem RdL.len {α : Type} {k : Nat} {E : World → α → List Value → Prop} {w : World} {v : Value} {l : List α} (h : RdL k E w v l) : l.length ≤ 140737488355328 := by
 obtain ⟨A, cap, h1, h2, _⟩ := h
 exact h2
theorem RdL.at' {α : Type} {k : Nat} {E : World → α → List Value → Prop} {w : World} {A : Option Addr} {n cap : Nat} {l : List α} (h : RdL k E w (.slice A n cap) l) {i : Nat} {a : α} (hi : l[i]? = some a) :
  ∃ g o c, A = some ⟨g, o, none⟩ ∧ E w a c ∧ ∀ (j : Nat) u, c[j]? = some u → w.cell? ⟨g, o + i * k + j, none⟩ = some u := by
 obtain ⟨A', cap', h1, _, h3⟩ := h
 injection h1 with e1 _ _
 subst e1
 exact h3 i a hi
theorem listE_row {α : Type} {E : α → List Value → Prop} {k : Nat} (hE : ∀ a c, E a c → c.length = k) : ∀ {l : List α} {xs : List Value} (i : Nat) (a : α), ListE E l xs → l[i]? = some a → ∃ c, E a c ∧ ∀ (j : Nat) u, c[j]? = some u → xs[i * k + j]? = some u
 | [], _, _, _, _, h => by simp at h
 | b :: l, xs, 0, a, h, hi => by
  obtain ⟨c, r, rfl, h1, _⟩ := h
  simp at hi
  subst hi
  refine ⟨c, h1, fun j u hj => ?_⟩
  have := (List.getElem?_eq_some_iff.1 hj).1
  rw [Nat.zero_mul, Nat.zero_add, List.getElem?_append_left this]
  exact hj
 | b :: l, xs, i + 1, a, h, hi => by
  obtain ⟨c, r, rfl, h1, h2⟩ := h
  obtain ⟨c2, h3, h4⟩ := listE_row hE i a h2 (by simpa using hi)
  refine ⟨c2, h3, fun j u hj => ?_⟩
  have hl := hE _ _ h1
  rw [List.getElem?_append_right (by rw [hl, Nat.succ_mul]; omega), hl, show (i + 1) * k + j - k = i * k + j by rw [Nat.succ_mul]; omega]
  exact h4 j u hj
theorem made_rd {α β : Type} {T k : Nat} {E : World → α → List Value → Prop} {E' : World → β → List Value → Prop} {w : World} {v : Value} {l : List α} (f : α → β) (hk : ∀ a c, E w a c → c.length = k) (hE : ∀ a c, E w a c → E' w (f a) c) (hl : l.length ≤ 140737488355328) (h : SlO T k E w v l) : RdL k E' w v (l.map f) := by
 obtain ⟨xs, h1, h2⟩ := h
 rcases h1.2 with ⟨h3, h0⟩ | ⟨g, cap, cur, hv, _, hg, hcap, _⟩
 ·have hl0 : l = [] := by simpa using h0
  subst hl0
  exact ⟨none, 0, h3, by simp, fun i a hi => by simp at hi⟩
 ·refine ⟨some ⟨g, 0, none⟩, cap, by rw [List.length_map]; exact hv, by rw [List.length_map]; exact hl, fun i a hi => ?_⟩
  rw [List.getElem?_map] at hi
  cases hli : l[i]? with
  | none => rw [hli] at hi; simp at hi
  | some b =>
   rw [hli] at hi
   simp at hi
   subst hi
   obtain ⟨c, h4, h5⟩ := listE_row hk i b h2 hli
   refine ⟨g, 0, c, rfl, hE _ _ h4, fun j u hj => ?_⟩
   have hb : v.ownBlock = some g := by rw [hv]; rfl
   have := h1.cells hb (i * k + j) u (h5 j u hj)
   have hadd : (⟨g, 0, none⟩ : Addr).add (i * k + j) = ⟨g, 0 + i * k + j, none⟩ := by unfold Addr.add; split <;> simp_all
   rwa [hadd] at this
theorem id_map {α : Type} (l : List α) : l.map (fun x => x) = l := List.map_id l
theorem strs_rd {w : World} {v : Value} {l : List Bs} (hl : l.length ≤ 140737488355328) (h : StrsO w v l) : RdL 1 StIE w v l := by
 have := made_rd (E' := StIE) (fun x => x) (by rintro a c rfl; rfl) (fun a c h => h) hl h
 rwa [id_map] at this
theorem byts_rd {w : World} {v : Value} {l : Bs} (h : BytsO w v l) : RdB w v l := by
 rcases h with ⟨rfl, rfl⟩ | ⟨g, cap, c, f, rfl, h2, h3, h4, h5⟩
 ·exact .inl ⟨rfl, rfl⟩
 ·exact .inr ⟨g, 0, cap, rfl, h2, h3, fun i x hx => by rw [Nat.zero_add]; exact heap_cell h4 (h5 i x hx)⟩
theorem rows_rd {w : World} {g T : Nat} {l : List Con} (hl : l.length ≤ 140737488355328) (h : RowsAt w g T 5 (l.map conV)) : RdL 5 CoIE w (.slice (some ⟨g, 0, none⟩) l.length l.length) (l.map coI) := by
 refine ⟨some ⟨g, 0, none⟩, l.length, by rw [List.length_map], by rw [List.length_map]; exact hl, fun i a hi => ?_⟩
 rw [List.getElem?_map] at hi
 cases hli : l[i]? with
 | none => rw [hli] at hi; simp at hi
 | some b =>
  rw [hli] at hi
  simp at hi
  subst hi
  refine ⟨g, 0, _, rfl, rfl, fun j u hj => ?_⟩
  rw [Nat.zero_add]
  exact h.cell (r := conV b) (by rw [List.getElem?_map, hli]; rfl) hj
theorem rdB_rdl {w : World} {v : Value} {l : Bs} (hl : l.length ≤ 140737488355328) (h : RdB w v l) : RdL 1 ByIE w v l := by
 rcases h with ⟨rfl, rfl⟩ | ⟨b, o, cap, rfl, h2, h3, h4⟩
 ·exact rdL_nil _ _ _
 ·refine ⟨some ⟨b, o, none⟩, cap, rfl, hl, fun i a hi => ⟨b, o, _, rfl, rfl, fun j u hj => ?_⟩⟩
  cases j with
  | succ j => simp at hj
  | zero =>
   simp at hj
   subst hj
   rw [Nat.mul_one]
   exact h4 i a hi
theorem conv_rdl (w : World) (v : Value) (l : Bs) (h : RdL 1 ByIE w v l) : (convert 28 9 v).run Tryz.prog w = .ok (.string (tx l)) w := by
 obtain ⟨A, cap, rfl, _, h3⟩ := h
 cases l with
 | nil =>
  cases A with
  | none => exact conv_nil w 0 cap
  | some a => exact run_convert_bytes_back (P := Tryz.prog) w 28 9 5 a cap [] Tryz.underlying28 Tryz.underlying5 Tryz.underlying9 (fun j hj => absurd hj (Nat.not_lt_zero j))
 | cons x l =>
  obtain ⟨g, o, c, rfl, _, _⟩ := h3 0 x rfl
  refine conv_slice w g o cap (x :: l) fun i c hi => ?_
  obtain ⟨g', o', c', h4, h5, h6⟩ := h3 i c hi
  injection h4 with h4
  injection h4 with e1 e2
  subst e1 e2
  obtain rfl := h5
  have := h6 0 _ rfl
  rwa [Nat.mul_one] at this
theorem frE_len {w : World} : ∀ a c, FrmE w a c → c.length = 3 := by
 rintro a c ⟨_, _, rfl, _⟩
 rfl
theorem meE_len {w : World} : ∀ a c, MetE w a c → c.length = 8 := by
 rintro a c ⟨_, _, _, rfl, _⟩
 rfl
def FrS (f : Frm) : Prop := f.locals.length ≤ 4000 ∧ f.stack.length ≤ 4000
def MeS (m : Met) : Prop := m.code.length ≤ 4000 ∧ m.rows.length ≤ 4000 ∧ m.frames.length ≤ 4000 ∧ ∀ f, f ∈ m.frames → FrS f
def ClS (c : Cls) : Prop := c.ifaces.length ≤ 4000 ∧ c.pool.length ≤ 4000 ∧ c.fields.length ≤ 4000 ∧ c.methods.length ≤ 4000 ∧ ∀ m, m ∈ c.methods → MeS m
theorem ListE.imp_mem {α : Type} {E E' : α → List Value → Prop} : ∀ {l : List α} {xs : List Value}, (∀ a c, a ∈ l → E a c → E' a c) → ListE E l xs → ListE E' l xs
 | [], _, _, h => h
 | b :: l, xs, hE, h => by
  obtain ⟨d, r, rfl, h1, h2⟩ := h
  exact ⟨d, r, rfl, hE _ _ List.mem_cons_self h1, h2.imp_mem (fun a c ha => hE a c (List.mem_cons_of_mem _ ha))⟩
theorem made_rd2 {α β : Type} {T k : Nat} {E : World → α → List Value → Prop} {E' : World → β → List Value → Prop} {w : World} {v : Value} {l : List α} (f : α → β) (hk : ∀ a c, E w a c → c.length = k) (hE : ∀ a c, a ∈ l → E w a c → E' w (f a) c) (hl : l.length ≤ 140737488355328) (h : SlO T k E w v l) : RdL k E' w v (l.map f) := by
 obtain ⟨xs, h1, h2⟩ := h
 have h3 : ListE (fun a c => E w a c ∧ a ∈ l) l xs := h2.imp_mem fun a c ha hc => ⟨hc, ha⟩
 exact made_rd (T := T) (E := fun w' a c => E w a c ∧ a ∈ l) (E' := E') (w := w) f (fun a c h => hk a c h.1) (fun a c h => hE a c h.2 h.1) hl ⟨xs, h1, h3⟩
theorem frE_rd {w : World} (f : Frm) (c : List Value) (hs : FrS f) (h : FrmE w f c) : FrIE w (frI f) c := by
 obtain ⟨a, b, rfl, h1, h2⟩ := h
 exact ⟨a, b, rfl, strs_rd (by have := hs.1; show f.locals.length ≤ _; omega) h1, strs_rd (by have := hs.2; show f.stack.length ≤ _; omega) h2⟩
theorem meE_rd {w : World} (m : Met) (c : List Value) (hs : MeS m) (h : MetE w m c) : MeIE w (meI m) c := by
 obtain ⟨a, b, d, rfl, h1, h2, h3⟩ := h
 obtain ⟨s1, s2, s3, s4⟩ := hs
 exact ⟨a, b, d, rfl, rdB_rdl (by show m.code.length ≤ _; omega) (byts_rd h1), made_rd rwI (by rintro a c rfl; rfl) (fun a c h => h) (by omega) h2, made_rd2 frI frE_len (fun a c ha hc => frE_rd a c (s4 a ha) hc) (by omega) h3⟩
theorem cls_rd {w : World} {g : Nat} {c : Cls} {a b d : Value} (hs : ClS c) (h1 : StrsO w a c.ifaces) (h2 : RowsAt w g 39 5 (c.pool.map conV)) (h3 : FldsO w b c.fields) (h4 : MetsO w d c.methods) :
  ClIV w (clI c) (.agg #[.int .i64 c.flags, .string (tx c.name), .string (tx c.super), a, .slice (some ⟨g, 0, none⟩) c.pool.length c.pool.length, b, d]) := by
 obtain ⟨s1, s2, s3, s4, s5⟩ := hs
 exact ⟨a, _, b, d, rfl, strs_rd (by show c.ifaces.length ≤ _; omega) h1, rows_rd (by omega) h2, made_rd flI (by rintro a c rfl; rfl) (fun a c h => h) (by omega) h3, made_rd2 meI meE_len (fun a c ha hc => meE_rd a c (s5 a ha) hc) (by omega) h4⟩
end Go.Proofs.YtgihfcimngogfaaGreat
namespace Go.Proofs.YtgihfcimngogfaaGreat
open Go.RowKit Go
set_option linter.unusedVariables false
def SOut (P : Prop) (w : World) (e : Ending) (w' : World) : Prop := (∃ r : Bool, e = .returned (.bool r) ∧ (r = true ↔ P)) ∧ Below w.heap.size w w'
theorem sout_no {P : Prop} {w w' : World} (h : ¬ P) (hb : Below w.heap.size w w') : SOut P w (.returned (.bool false)) w' := ⟨⟨false, rfl, by simp [h]⟩, hb⟩
theorem sout_yes {P : Prop} {w w' : World} (h : P) (hb : Below w.heap.size w w') : SOut P w (.returned (.bool true)) w' := ⟨⟨true, rfl, by simp [h]⟩, hb⟩
theorem Below.drewN' {B : Nat} {a w : World} (h : Below B a w) (n : Nat) : Below B a (w.drewN n) := ⟨h.os, h.tape, h.output, h.size, h.block⟩
theorem take_on {α : Type} {l m : List α} {k : Nat} {a b : α} (ha : l[k]? = some a) (hb : m[k]? = some b) (h : l.take k = m.take k) (e : a = b) : l.take (k + 1) = m.take (k + 1) := by
 subst e
 rw [List.take_add_one, List.take_add_one, ha, hb, h]
theorem ne_at {α : Type} {l m : List α} {k : Nat} {a b : α} (ha : l[k]? = some a) (hb : m[k]? = some b) (e : a ≠ b) : l ≠ m := by
 rintro rfl
 rw [ha] at hb
 injection hb with hb
 exact e hb
theorem tx_toL (l : Bs) : (tx l).toList = l := by rw [Lib.toList_data, tx_list]
theorem tx_ne {a b : Bs} (h : ¬ a = b) : ¬ (tx a).toList = (tx b).toList := by rw [tx_toL, tx_toL]; exact h
theorem co_diff {x y : CoI} (h : ¬ x = y) : ¬ x.kind = y.kind ∨ (x.kind = y.kind ∧ ¬ x.num = y.num) ∨ (x.kind = y.kind ∧ x.num = y.num ∧ ¬ x.text = y.text) ∨ (x.kind = y.kind ∧ x.num = y.num ∧ x.text = y.text ∧ ¬ x.name = y.name) ∨ (x.kind = y.kind ∧ x.num = y.num ∧ x.text = y.text ∧ x.name = y.name ∧ ¬ x.desc = y.desc) := by
 obtain ⟨a0, a1, a2, a3, a4⟩ := x
 obtain ⟨b0, b1, b2, b3, b4⟩ := y
 by_cases h0 : a0 = b0 <;> by_cases h1 : a1 = b1 <;> by_cases h2 : a2 = b2 <;> by_cases h3 : a3 = b3 <;> by_cases h4 : a4 = b4 <;> simp_all
set_option maxHeartbeats 8000000 in
set_option maxRecDepth 100000 in
theorem sameC_any (l m : List CoI) (va vb : Value) (w : World) (ha : Hid (RdL 5 CoIE w va l)) (hb : Hid (RdL 5 CoIE w vb m)) :
  Calls Tryz.prog 32 #[va, vb] w (SOut (l = m) w) := by
 obtain ⟨A, ca, rfl⟩ := ha.out.shape
 obtain ⟨B, cb, rfl⟩ := hb.out.shape
 have l1 := ha.out.len
 have l2 := hb.out.len
 by_cases hl : l.length = m.length
 case neg =>
  have hne : ¬ l = m := fun e => hl (by rw [e])
  have HN := lhid hne
  have e1 : ((l.length : Int) == m.length) = false := by rw [beq_eq_false_iff_ne]; omega
  have e2 : ((l.length : Int) != m.length) = true := by rw [bne, e1]; rfl
  clear hne hl
  go_enter Tryz.func32, Tryz.ntmps32
  go_wp2_with fail
  go_ret
  exact sout_no HN.out (Below.refl _ _)
 have HL := lhid hl
 have e1 : ((l.length : Int) == m.length) = true := by rw [beq_iff_eq]; omega
 have e2 : ((l.length : Int) != m.length) = false := by rw [bne, e1]; rfl
 clear hl
 go_enter Tryz.func32, Tryz.ntmps32
 go_wp2_with fail
 go_loopw [5] (fun i wr => ∃ k n : Nat, i = .int .i64 k ∧ k ≤ l.length ∧ Hid (l.take k = m.take k) ∧ wr = w.drewN n) (fun i _ => l.length - (intOf i).toNat)
 case atStart => exact ⟨0, 0, rfl, Nat.zero_le _, lhid (by simp), rfl⟩
 case round =>
  obtain ⟨k, n, rfl, hk, HE, rfl⟩ := hrel
  by_cases hlt : k < l.length
  ·obtain ⟨x, hx⟩ : ∃ x, l[k]? = some x := ⟨_, List.getElem?_eq_getElem hlt⟩
   obtain ⟨y, hy⟩ : ∃ y, m[k]? = some y := ⟨_, List.getElem?_eq_getElem (by have := HL.out; omega)⟩
   obtain ⟨g, o, c, rfl, rfl, hc⟩ := ha.out.at' hx
   obtain ⟨g', o', c', rfl, rfl, hc'⟩ := hb.out.at' hy
   have a0 := hc 0 _ rfl
   have a1 := hc 1 _ rfl
   have a2 := hc 2 _ rfl
   have a3 := hc 3 _ rfl
   have a4 := hc 4 _ rfl
   have b0 := hc' 0 _ rfl
   have b1 := hc' 1 _ rfl
   have b2 := hc' 2 _ rfl
   have b3 := hc' 3 _ rfl
   have b4 := hc' 4 _ rfl
   have k3 : (k : Int) < l.length := by omega
   have k4 : (k : Int) < m.length := by have := HL.out; omega
   have HX := lhid hx
   have HY := lhid hy
   clear hx hy hc hc'
   rw [Nat.add_zero] at a0 b0
   by_cases hxy : x = y
   ·subst hxy
    go_wp2_with fail
    go_quiet (fail)
    go_wp2_with fail
    go_roundw
    case rel => exact ⟨k + 1, _, by go_num, by omega, lhid (take_on HX.out HY.out HE.out rfl), rfl⟩
    case measure => simp [intOf]; omega
   ·have HNE := lhid (ne_at HX.out HY.out hxy)
    have hd := co_diff hxy
    clear hxy
    rcases hd with d0 | ⟨d0, d1⟩ | ⟨d0, d1, d2⟩ | ⟨d0, d1, d2, d3⟩ | ⟨d0, d1, d2, d3, d4⟩
    case' inr.inr.inl => have d2 := tx_ne d2
    case' inr.inr.inr.inl => have d3 := tx_ne d3
    case' inr.inr.inr.inr => have d4 := tx_ne d4
    all_goals
     go_wp2_with fail
     go_quiet (fail)
     go_wp2_with fail
     go_ret
     exact sout_no HNE.out (Below.drewN' (Below.drewN' (Below.refl _ w) _) _)
  ·have hkl : k = l.length := by omega
   have k3 : ¬ (k : Int) < l.length := by omega
   have HK := lhid hkl
   clear hkl
   go_wp2_with fail
   go_ret
   exact sout_yes (by have h := HE.out; rw [HK.out, List.take_length] at h; rw [h, HL.out, List.take_length]) (Below.drewN' (Below.refl _ w) n)
end Go.Proofs.YtgihfcimngogfaaGreat
