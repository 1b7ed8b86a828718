/- Texts of this claim, joined: FileGood, FileGoodP, FileTold. -/
import Derived.Test.YtgihfcimngogfaaGreatM13
import Derived.Test.YtgihfcimngogfaaGreatM15
import Derived.Test.YtgihfcimngogfaaGreatM7
import Derived.Test.YtgihfcimngogfaaGreatM16
import Derived.Test.YtgihfcimngogfaaGreatJFileSame
namespace Go.Proofs.YtgihfcimngogfaaGreat
open Go Go.RowKit
set_option linter.unusedVariables false
structure GoodF (cf : Nat) (f : Fld) : Prop where
 name : nameB f.name false = true
 desc : typeB f.desc = true
 flags : f.flags = 0 ∨ f.flags = 8
 iface : cf = 1536 → f.flags ≠ 0
structure GoodM (cf : Nat) (m : Met) : Prop where
 name : nameB m.name true = true
 desc : (metB m.desc).isSome = true
 flags : m.flags = 0 ∨ m.flags = 8 ∨ m.flags = 1024
 stack : m.stack ≤ 20
 locals : m.locals ≤ 40
 code : m.code.length ≤ 4000
 rows : m.rows.length ≤ 60
 frames : m.frames.length ≤ 4000
 frame : ∀ f, f ∈ m.frames → f.locals.length ≤ 40 ∧ f.stack.length ≤ 20
 bare : m.flags = 1024 → cf ≠ 0 ∧ m.stack = 0 ∧ m.locals = 0 ∧ m.code = [] ∧ m.rows = [] ∧ m.frames = []
 iface : cf = 1536 → m.flags = 1024
structure GoodK (c : Cls) : Prop where
 name : nameB c.name false = true
 super : nameB c.super false = true
 flags : c.flags = 0 ∨ c.flags = 1024 ∨ c.flags = 1536
 ifaces : c.ifaces.length ≤ 8
 pool : c.pool.length ≤ 1000
 fields : c.fields.length ≤ 60
 methods : c.methods.length ≤ 60
 field : ∀ f, f ∈ c.fields → GoodF c.flags f
 method : ∀ m, m ∈ c.methods → GoodM c.flags m
theorem GoodK.small {c : Cls} (h : GoodK c) : ClS c :=
 ⟨by have := h.ifaces; omega, by have := h.pool; omega, by have := h.fields; omega, by have := h.methods; omega, fun m hm => ⟨(h.method m hm).code, by have := (h.method m hm).rows; omega, (h.method m hm).frames, fun f hf => ⟨by have := ((h.method m hm).frame f hf).1; omega, by have := ((h.method m hm).frame f hf).2; omega⟩⟩⟩
theorem manyP_all {α : Type} {p : Bs → Pr α} {G : α → Prop} (hp : ∀ s a r, p s = .ok a r → G a) : ∀ (n : Nat) (s : Bs) (acc l : List α) (r : Bs), manyP p n s acc = .ok l r → (∀ a, a ∈ acc → G a) → ∀ a, a ∈ l → G a
 | 0, s, acc, l, r, h, ha => by cases h; exact ha
 | n + 1, s, acc, l, r, h, ha => by
  rw [manyP] at h
  obtain ⟨a, r1, h1, h2⟩ := then_ok_inv h
  refine manyP_all hp n _ _ _ _ h2 fun b hb => ?_
  rcases List.mem_append.1 hb with hb | hb
  ·exact ha b hb
  ·simp at hb
   subst hb
   exact hp _ _ _ h1
theorem many_good {α : Type} {p : Bs → Pr α} {G : α → Prop} (hp : ∀ s a r, p s = .ok a r → G a) {n : Nat} {s : Bs} {l : List α} {r : Bs} (h : manyP p n s [] = .ok l r) : l.length = n ∧ ∀ a, a ∈ l → G a :=
 ⟨by have := manyP_len p n s [] l r h; simpa using this, manyP_all hp n s [] l r h (fun a ha => by simp at ha)⟩
theorem conP_mem {L : List Con} {k : Nat} {s r : Bs} {c : Con} (h : conP L k s = .ok c r) : c ∈ L ∧ c.kind = k := by
 unfold conP at h
 obtain ⟨i, r1, _, h2⟩ := then_ok_inv h
 unfold atP at h2
 cases hk : kAt L i k with
 | none => rw [hk] at h2; cases h2
 | some x =>
  rw [hk] at h2
  injection h2 with h3 _
  subst h3
  obtain ⟨h4, h5⟩ := kAt_some hk
  exact ⟨List.mem_of_getElem? h4, h5⟩
theorem clsP_name {L : List Con} (hg : ∀ c, c ∈ L → GoodC c) {s r : Bs} {t : Bs} (h : clsP L s = .ok t r) : nameB t false = true := by
 unfold clsP at h
 obtain ⟨c, r1, h1, h2⟩ := then_ok_inv h
 obtain ⟨h3, h4⟩ := conP_mem h1
 unfold flatP at h2
 split at h2
 ·cases h2
 ·rename_i h5
  injection h2 with h6 _
  subst h6
  have h7 := (hg c h3).named h4
  unfold namedB at h7
  rw [Bool.or_eq_true] at h7
  rcases h7 with h7 | h7
  ·exact h7
  ·rw [Bool.and_eq_true] at h7
   exact absurd (by simpa using h7.1) h5
theorem tysP_len {L : List Con} {most : Nat} {s r : Bs} {l : List Bs} (h : tysP L most s = .ok l r) : l.length ≤ most := by
 unfold tysP at h
 obtain ⟨n, r1, h1, h2⟩ := then_ok_inv h
 have := cntP_le h1
 have := (many_good (G := fun _ => True) (fun _ _ _ _ => trivial) h2).1
 omega
theorem frmP_len {L : List Con} {s r : Bs} {f : Frm} (h : frmP L s = .ok f r) : f.locals.length ≤ 40 ∧ f.stack.length ≤ 20 := by
 unfold frmP at h
 obtain ⟨pc, r1, h1, h⟩ := then_ok_inv h
 obtain ⟨a, r2, h2, h⟩ := then_ok_inv h
 obtain ⟨b, r3, h3, h⟩ := then_ok_inv h
 cases h
 exact ⟨tysP_len h2, tysP_len h3⟩
theorem flg8 {f : Nat} (h : f &&& 8 = f) : f = 0 ∨ f = 8 := by
 have hle : f ≤ 8 := by rw [← h]; exact Nat.and_le_right
 have := (by decide : ∀ f : Fin 9, f.val &&& 8 = f.val → f.val = 0 ∨ f.val = 8) ⟨f, by omega⟩ h
 exact this
theorem fldP_good {L : List Con} {cl : Nat} (hcl : cl = 0 ∨ cl = 1024 ∨ cl = 1536) {s r : Bs} {f : Fld} (h : fldP L cl s = .ok f r) : GoodF cl f := by
 have hb : (cl &&& 512 ≠ 0) ↔ cl = 1536 := by rcases hcl with rfl | rfl | rfl <;> decide
 unfold fldP at h
 obtain ⟨fl, r1, h1, h⟩ := then_ok_inv h
 obtain ⟨m, r2, h2, h⟩ := then_ok_inv h
 unfold fldJ at h
 split at h
 ·cases h
 split at h
 ·cases h
 split at h
 ·cases h
 rename_i g1 g2 g3
 injection h with h _
 subst h
 exact ⟨by simpa using g1, by simpa using g2, flg8 (flgP_bits h1), fun e h0 => g3 ⟨hb.2 e, h0⟩⟩
theorem bdyP_good {L : List Con} {f : Nat} {m : Bs × Bs} {s r : Bs} {mm : Met} (h : bdyP L f m s = .ok mm r) : mm.flags = f ∧ mm.name = m.1 ∧ mm.desc = m.2 ∧ mm.stack ≤ 20 ∧ mm.locals ≤ 40 ∧ mm.code.length ≤ 4000 ∧ mm.rows.length ≤ 60 ∧ mm.frames.length ≤ 4000 ∧ ∀ f, f ∈ mm.frames → f.locals.length ≤ 40 ∧ f.stack.length ≤ 20 := by
 unfold bdyP at h
 obtain ⟨st, r1, h1, h⟩ := then_ok_inv h
 obtain ⟨lo, r2, h2, h⟩ := then_ok_inv h
 obtain ⟨n, r3, h3, h⟩ := then_ok_inv h
 obtain ⟨code, r4, h4, h⟩ := then_ok_inv h
 obtain ⟨k, r5, h5, h⟩ := then_ok_inv h
 obtain ⟨rows, r6, h6, h⟩ := then_ok_inv h
 obtain ⟨q, r7, h7, h⟩ := then_ok_inv h
 obtain ⟨frames, r8, h8, h⟩ := then_ok_inv h
 injection h with h _
 subst h
 have e1 := cntP_le h1
 have e2 := cntP_le h2
 have e3 := cntP_le h3
 have e5 := cntP_le h5
 have e7 := cntP_le h7
 have e4 := (bytP_len h4).1
 have e6 := (many_good (G := fun _ => True) (fun _ _ _ _ => trivial) h6).1
 have e8 := many_good (fun _ _ _ h => frmP_len h) h8
 exact ⟨rfl, rfl, rfl, e1, e2, by show code.length ≤ 4000; omega, by show rows.length ≤ 60; omega, by show frames.length ≤ 4000; omega, e8.2⟩
theorem metP_good {L : List Con} {cl : Nat} (hcl : cl = 0 ∨ cl = 1024 ∨ cl = 1536) {s r : Bs} {mm : Met} (h : metP L cl s = .ok mm r) : GoodM cl mm := by
 unfold metP at h
 obtain ⟨fl, r1, h1, h⟩ := then_ok_inv h
 obtain ⟨m, r2, h2, h⟩ := then_ok_inv h
 have hf := bits1032 (flgP_bits h1)
 unfold metJ at h
 split at h
 ·cases h
 split at h
 ·cases h
 split at h
 ·cases h
 rename_i g1 g2 g3
 have g1' : nameB m.1 true = true := by simpa using g1
 have g2' : (metB m.2).isSome = true := by
  cases hq : (metB m.2).isSome with
  | true => rfl
  | false => exact absurd hq g2
 have g3' : metFit cl fl = true := by simpa using g3
 have hfit : (fl = 1024 ∧ cl ≠ 0) ∨ ((fl = 0 ∨ fl = 8) ∧ cl ≠ 1536) := by
  rcases hf with rfl | rfl | rfl | rfl <;> rcases hcl with rfl | rfl | rfl <;> first | (exact absurd g3' (by decide)) | simp
 rcases hfit with ⟨rfl, hc⟩ | ⟨hfl, hc⟩
 ·rw [if_neg (by decide)] at h
  injection h with h _
  subst h
  exact ⟨g1', g2', .inr (.inr rfl), Nat.zero_le _, Nat.zero_le _, Nat.zero_le _, Nat.zero_le _, Nat.zero_le _, fun f hf => by simp at hf, fun _ => ⟨hc, rfl, rfl, rfl, rfl, rfl⟩, fun _ => rfl⟩
 ·have hz : fl &&& 1024 = 0 := by rcases hfl with rfl | rfl <;> decide
  rw [if_pos hz] at h
  obtain ⟨b1, b2, b3, b4, b5, b6, b7, b8, b9⟩ := bdyP_good h
  exact ⟨by rw [b2]; exact g1', by rw [b3]; exact g2', by rw [b1]; rcases hfl with rfl | rfl <;> simp, b4, b5, b6, b7, b8, b9, fun e => by rw [b1] at e; omega, fun e => absurd e hc⟩
theorem behP_good {L : List Con} (hg : ∀ c, c ∈ L → GoodC c) (hl : L.length ≤ 1000) {s r : Bs} {c : Cls} (h : behP L s = .ok c r) : GoodK c := by
 unfold behP at h
 obtain ⟨cf, r1, h1, h⟩ := then_ok_inv h
 split at h
 ·cases h
 rename_i h512
 have hf := bits1536 (flgP_bits h1)
 have hcl : cf = 0 ∨ cf = 1024 ∨ cf = 1536 := by omega
 obtain ⟨nm, r2, h2, h⟩ := then_ok_inv h
 obtain ⟨sp, r3, h3, h⟩ := then_ok_inv h
 obtain ⟨a, r4, h4, h⟩ := then_ok_inv h
 obtain ⟨is, r5, h5, h⟩ := then_ok_inv h
 obtain ⟨b, r6, h6, h⟩ := then_ok_inv h
 obtain ⟨fs, r7, h7, h⟩ := then_ok_inv h
 obtain ⟨d, r8, h8, h⟩ := then_ok_inv h
 obtain ⟨ms, r9, h9, h⟩ := then_ok_inv h
 injection h with h _
 subst h
 have c1 := cntP_le h4
 have c2 := cntP_le h6
 have c3 := cntP_le h8
 have e1 := (many_good (G := fun _ => True) (fun _ _ _ _ => trivial) h5).1
 have e2 := many_good (fun _ _ _ h => fldP_good hcl h) h7
 have e3 := many_good (fun _ _ _ h => metP_good hcl h) h9
 exact ⟨clsP_name hg h2, clsP_name hg h3, hcl, by show is.length ≤ 8; omega, hl, by show fs.length ≤ 60; omega, by show ms.length ≤ 60; omega, e2.2, e3.2⟩
theorem par_link {l : Bs} {x : Nat} {s2 : St} {L : List Con} {c : Cls} {tz : Sg} (hm : ¬ (l.length < 4 ∨ l.take 4 ≠ [82, 69, 71, 76])) (hx : poolX (l.drop 4, false) = x) (hs : poolS (l.drop 4, false) = s2) (hL : x = 0 → L = poolL (l.drop 4, false)) (hb : rBeh L (x, s2) = (c, tz)) :
  (∃ r, filP l = .ok c r ∧ (rEnd c tz).1 = 0) ∨ (filP l = .er (rEnd c tz).1 ∧ (rEnd c tz).1 ≠ 0) := by
 unfold filP
 rw [if_neg hm, hx]
 by_cases h0 : x = 0
 ·subst h0
  rw [if_neg (by simp)]
  have hL' := hL rfl
  subst hL'
  have hw := poolS_whole hx
  rw [hs] at hw
  have hlk := lk_close (lk_beh (poolL_zero _ hx 7 (by decide)) (poolL_zero _ hx 1 (by decide)) s2.1)
  have e : g0 s2.1 = (0, s2) := by obtain ⟨a, b⟩ := s2; simp at hw; subst hw; rfl
  rw [e, hb] at hlk
  rw [hs]
  cases hp : (behP (poolL (l.drop 4, false)) s2.1).then endC with
  | ok d r =>
   rw [hp] at hlk
   have hlk' : (c, rEnd c tz) = (d, g0 r) := hlk
   injection hlk' with h1 h2
   subst h1
   exact .inl ⟨r, rfl, by rw [h2]⟩
  | er y =>
   rw [hp] at hlk
   have hlk' : y ≠ 0 ∧ (rEnd c tz).1 = y := hlk
   exact .inr ⟨by rw [hlk'.2], by rw [hlk'.2]; exact hlk'.1⟩
 ·rw [if_pos h0]
  have h1 := rBeh_stay (L := L) (σ := (x, s2)) h0
  rw [hb] at h1
  have h1' : tz.1 = x := h1
  have h2 : (rEnd c tz).1 = x := by rw [rEnd_stay (by rw [h1']; exact h0), h1']
  exact .inr ⟨by rw [h2], by rw [h2]; exact h0⟩
theorem par_good {l : Bs} {x : Nat} {s2 : St} {L : List Con} {c : Cls} {tz : Sg} (hx : poolX (l.drop 4, false) = x) (hs : poolS (l.drop 4, false) = s2) (hL : x = 0 → L = poolL (l.drop 4, false)) (hb : rBeh L (x, s2) = (c, tz)) (hg : ∀ c, c ∈ L → GoodC c) (hl : L.length ≤ 1000) (h0 : tz.1 = 0) : x = 0 ∧ GoodK c := by
 by_cases hx0 : x = 0
 ·subst hx0
  have hL' := hL rfl
  subst hL'
  have hw := poolS_whole hx
  rw [hs] at hw
  have hlk := lk_beh (poolL_zero _ hx 7 (by decide)) (poolL_zero _ hx 1 (by decide)) s2.1
  have e : g0 s2.1 = (0, s2) := by obtain ⟨a, b⟩ := s2; simp at hw; subst hw; rfl
  rw [e, hb] at hlk
  cases hp : behP (poolL (l.drop 4, false)) s2.1 with
  | ok d r =>
   rw [hp] at hlk
   have hlk' : (c, tz) = (d, g0 r) := hlk
   injection hlk' with h1 h2
   subst h1
   exact ⟨rfl, behP_good hg hl hp⟩
  | er y =>
   rw [hp] at hlk
   have hlk' : y ≠ 0 ∧ tz.1 = y := hlk
   exact absurd (hlk'.2.symm.trans h0) hlk'.1
 ·have h1 := rBeh_stay (L := L) (σ := (x, s2)) hx0
  rw [hb] at h1
  have h1' : tz.1 = x := h1
  exact absurd (h1'.symm.trans h0) hx0
end Go.Proofs.YtgihfcimngogfaaGreat
namespace Go.Proofs.YtgihfcimngogfaaGreat
open Go.RowKit Go
set_option linter.unusedVariables false
theorem parP_good {l : Bs} {c : Cls} {r : Bs} (h : parP l = .ok c r) : GoodK c := by
 unfold parP at h
 split at h
 ·cases h
 unfold filP at h
 split at h
 ·cases h
 split at h
 ·cases h
 rename_i h1 h2 h3
 have hx : poolX (l.drop 4, false) = 0 := by simpa using h3
 obtain ⟨c', r', h4, h5⟩ := then_ok_inv h
 unfold endC at h5
 split at h5
 ·cases h5
 split at h5
 ·cases h5
 injection h5 with h5 _
 subst h5
 exact behP_good (poolL_good hx) (poolL_len _ hx) h4
abbrev HParse : Prop := ∀ (v : Value) (l : Bs) (w : World), Hid (RdB w v l) → Calls Tryz.prog 27 #[v] w (POut (parP l) w)
end Go.Proofs.YtgihfcimngogfaaGreat
namespace Go.Proofs.YtgihfcimngogfaaGreat
open Go.RowKit Go
set_option linter.unusedVariables false
def WOut (c : ClI) (w : World) (e : Ending) (w' : World) : Prop :=
 Below w.heap.size w w' ∧ (e = .returned (.tuple #[.slice none 0 0, .int .i64 1]) ∨
  ∃ v l d r, e = .returned (.tuple #[v, .int .i64 0]) ∧ w'.ownsRow w.heap.size 5 1 v l.length (byV l) ∧ parP l = .ok d r ∧ clI d = c)
abbrev HWrite (c : ClI) : Prop := ∀ (cv : Value) (w : World), Hid (ClIV w c cv) → Calls Tryz.prog 12 #[cv] w (WOut c w)
set_option maxHeartbeats 8000000 in
set_option maxRecDepth 100000 in
theorem FileTold_walk (hparse : Hid HParse) (c : ClI) (hwrite : Hid (HWrite c)) (cv : Value) (w : World) (h : Hid (ClIV w c cv)) :
  Calls Tryz.prog 4 #[cv] w fun e w' => e = .returned (.bool true) ∧ Below w.heap.size w w' := by
 have HV0 := lhid h.out
 obtain ⟨a1, a2, a3, a4, rfl, g1, g2, g3, g4⟩ := h.out
 obtain ⟨A1, e1, rfl⟩ := g1.shape
 obtain ⟨A2, e2, rfl⟩ := g2.shape
 obtain ⟨A3, e3, rfl⟩ := g3.shape
 obtain ⟨A4, e4, rfl⟩ := g4.shape
 clear g1 g2 g3 g4 h
 have HX0 := lhid (heap_alloc_new w (.cells #[.int .i64 c.flags, .string (tx c.name), .string (tx c.super), .slice A1 c.ifaces.length e1, .slice A2 c.pool.length e2, .slice A3 c.fields.length e3, .slice A4 c.methods.length e4] 27))
 have HB0 := lhid ((Below.refl w.heap.size w).alloc (Nat.le_refl _) (.cells #[.int .i64 c.flags, .string (tx c.name), .string (tx c.super), .slice A1 c.ifaces.length e1, .slice A2 c.pool.length e2, .slice A3 c.fields.length e3, .slice A4 c.methods.length e4] 27))
 go_enter Tryz.func4, Tryz.ntmps4
 go_wp2_with fail
 with_reducible refine (fholds_any hparse _).mono ?_
 rintro e w1 ⟨rfl, hb⟩
 have HB1 := lhid (HB0.out.trans (below_lt hb HB0.out.size))
 have HX1 : Hid (w1.heap[w.heap.size]? = some (.cells #[.int .i64 c.flags, .string (tx c.name), .string (tx c.super), .slice A1 c.ifaces.length e1, .slice A2 c.pool.length e2, .slice A3 c.fields.length e3, .slice A4 c.methods.length e4] 27)) := lhid ((hb.block _ (heap_lt HX0.out)).trans HX0.out)
 have HV1 := lhid (HV0.out.below HB1.out)
 clear hb
 have x0 := heap_cell (i := 0) HX1.out rfl
 have x1 := heap_cell (i := 1) HX1.out rfl
 have x2 := heap_cell (i := 2) HX1.out rfl
 have x3 := heap_cell (i := 3) HX1.out rfl
 have x4 := heap_cell (i := 4) HX1.out rfl
 have x5 := heap_cell (i := 5) HX1.out rfl
 have x6 := heap_cell (i := 6) HX1.out rfl
 go_wp2_with fail
 with_reducible refine (hwrite.out _ w1 HV1).mono ?_
 clear x0 x1 x2 x3 x4 x5 x6
 rintro e w2 ⟨hb, rfl | ⟨v, l, d, r, rfl, ho, hp, hd⟩⟩
 ·have HB2 := lhid (HB1.out.trans (below_lt hb HB1.out.size))
  clear hb
  go_wp2_with fail
  go_ret
  exact ⟨rfl, HB2.out⟩
 ·have HB2 := lhid (HB1.out.trans (below_lt hb HB1.out.size))
  have HX2 : Hid (w2.heap[w.heap.size]? = some (.cells #[.int .i64 c.flags, .string (tx c.name), .string (tx c.super), .slice A1 c.ifaces.length e1, .slice A2 c.pool.length e2, .slice A3 c.fields.length e3, .slice A4 c.methods.length e4] 27)) := lhid ((hb.block _ (heap_lt HX1.out)).trans HX1.out)
  have HR2 := lhid (own_rdB ho)
  obtain ⟨V, vc, rfl, _⟩ := rdB_form HR2.out
  have HP := lhid hp
  have HD := lhid hd
  have HG := lhid (parP_good hp).small
  clear hb ho hp hd
  go_wp2_with fail
  with_reducible refine (parse_any _ l _ HR2).mono ?_
  rintro e w3 ⟨hb, hx⟩
  rw [HP.out] at hx
  obtain ⟨dv, g, rfl, xa, xb, xd, rfl, v1, v2, v3, v4⟩ := hx
  obtain ⟨B1, f1, rfl⟩ := slO_shape v1
  obtain ⟨B3, f3, rfl⟩ := slO_shape v3
  obtain ⟨B4, f4, rfl⟩ := slO_shape v4
  have HU := lhid (cls_rd HG.out v1 v2 v3 v4)
  clear v1 v2 v3 v4
  have HB3 := lhid (HB2.out.trans (below_lt hb HB2.out.size))
  have HX3 : Hid (w3.heap[w.heap.size]? = some (.cells #[.int .i64 c.flags, .string (tx c.name), .string (tx c.super), .slice A1 c.ifaces.length e1, .slice A2 c.pool.length e2, .slice A3 c.fields.length e3, .slice A4 c.methods.length e4] 27)) := lhid ((hb.block _ (heap_lt HX2.out)).trans HX2.out)
  have HX4 := lhid ((Below.heap_alloc w3 (.cells #[.int .i64 d.flags, .string (tx d.name), .string (tx d.super), .slice B1 d.ifaces.length f1, .slice (some ⟨g, 0, none⟩) d.pool.length d.pool.length, .slice B3 d.fields.length f3, .slice B4 d.methods.length f4] 27) _ (heap_lt HX3.out)).trans HX3.out)
  have HB4 := lhid (HB3.out.alloc HB3.out.size (.cells #[.int .i64 d.flags, .string (tx d.name), .string (tx d.super), .slice B1 d.ifaces.length f1, .slice (some ⟨g, 0, none⟩) d.pool.length d.pool.length, .slice B3 d.fields.length f3, .slice B4 d.methods.length f4] 27))
  have HY4 := lhid (heap_alloc_new w3 (.cells #[.int .i64 d.flags, .string (tx d.name), .string (tx d.super), .slice B1 d.ifaces.length f1, .slice (some ⟨g, 0, none⟩) d.pool.length d.pool.length, .slice B3 d.fields.length f3, .slice B4 d.methods.length f4] 27))
  have HV4 := lhid (HV0.out.below HB4.out)
  have HU4 := lhid (HU.out.below ((Below.refl w3.heap.size w3).alloc (Nat.le_refl _) (.cells #[.int .i64 d.flags, .string (tx d.name), .string (tx d.super), .slice B1 d.ifaces.length f1, .slice (some ⟨g, 0, none⟩) d.pool.length d.pool.length, .slice B3 d.fields.length f3, .slice B4 d.methods.length f4] 27)))
  clear hb
  have x0 := heap_cell (i := 0) HX4.out rfl
  have y0 := heap_cell (i := 0) HY4.out rfl
  have x1 := heap_cell (i := 1) HX4.out rfl
  have y1 := heap_cell (i := 1) HY4.out rfl
  have x2 := heap_cell (i := 2) HX4.out rfl
  have y2 := heap_cell (i := 2) HY4.out rfl
  have x3 := heap_cell (i := 3) HX4.out rfl
  have y3 := heap_cell (i := 3) HY4.out rfl
  have x4 := heap_cell (i := 4) HX4.out rfl
  have y4 := heap_cell (i := 4) HY4.out rfl
  have x5 := heap_cell (i := 5) HX4.out rfl
  have y5 := heap_cell (i := 5) HY4.out rfl
  have x6 := heap_cell (i := 6) HX4.out rfl
  have y6 := heap_cell (i := 6) HY4.out rfl
  go_wp2_with fail
  with_reducible refine (scls_any c _ _ _ HV4 (HD.out ▸ HU4)).mono ?_
  rintro e w5 ⟨rfl, hb⟩
  have HB5 := lhid (HB4.out.trans (below_lt hb HB4.out.size))
  clear hb
  go_wp2_with fail
  go_ret
  exact ⟨rfl, HB5.out⟩
end Go.Proofs.YtgihfcimngogfaaGreat
