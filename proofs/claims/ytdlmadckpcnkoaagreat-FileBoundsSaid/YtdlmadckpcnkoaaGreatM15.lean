/- Texts of this claim, joined: FileGood, FileTwiceR. -/
import Derived.Test.YtdlmadckpcnkoaaGreatM13
import Derived.Test.YtdlmadckpcnkoaaGreatJFileFile
import Derived.Test.YtdlmadckpcnkoaaGreatM7
import Derived.Test.YtdlmadckpcnkoaaGreatJFileTwice
/- What a class that is parsed holds: counts, flags, names, descriptors. No program in this text. -/
namespace Go.Proofs.YtdlmadckpcnkoaaGreat
open Go Go.RowKit
set_option linter.unusedVariables false

structure GoodF (cf : Nat) (f : Fld) : Prop where
  name : nameB f.name false = true
  desc : typeB f.desc = true
  flags : f.flags = 0 ∨ f.flags = 8
  iface : cf = 1536 → f.flags ≠ 0
structure GoodM (cf : Nat) (m : Met) : Prop where
  name : nameB m.name true = true
  desc : (metB m.desc).isSome = true
  flags : m.flags = 0 ∨ m.flags = 8 ∨ m.flags = 1024
  stack : m.stack ≤ 20
  locals : m.locals ≤ 40
  code : m.code.length ≤ 4000
  rows : m.rows.length ≤ 60
  frames : m.frames.length ≤ 4000
  frame : ∀ f, f ∈ m.frames → f.locals.length ≤ 40 ∧ f.stack.length ≤ 20
  bare : m.flags = 1024 → cf ≠ 0 ∧ m.stack = 0 ∧ m.locals = 0 ∧ m.code = [] ∧ m.rows = [] ∧ m.frames = []
  iface : cf = 1536 → m.flags = 1024
structure GoodK (c : Cls) : Prop where
  name : nameB c.name false = true
  super : nameB c.super false = true
  flags : c.flags = 0 ∨ c.flags = 1024 ∨ c.flags = 1536
  ifaces : c.ifaces.length ≤ 8
  pool : c.pool.length ≤ 1000
  fields : c.fields.length ≤ 60
  methods : c.methods.length ≤ 60
  field : ∀ f, f ∈ c.fields → GoodF c.flags f
  method : ∀ m, m ∈ c.methods → GoodM c.flags m
theorem GoodK.small {c : Cls} (h : GoodK c) : ClS c :=
  ⟨by have := h.ifaces; omega, by have := h.pool; omega, by have := h.fields; omega, by have := h.methods; omega, fun m hm => ⟨(h.method m hm).code, by have := (h.method m hm).rows; omega, (h.method m hm).frames, fun f hf => ⟨by have := ((h.method m hm).frame f hf).1; omega, by have := ((h.method m hm).frame f hf).2; omega⟩⟩⟩
theorem manyP_all {α : Type} {p : Bs → Pr α} {G : α → Prop} (hp : ∀ s a r, p s = .ok a r → G a) : ∀ (n : Nat) (s : Bs) (acc l : List α) (r : Bs), manyP p n s acc = .ok l r → (∀ a, a ∈ acc → G a) → ∀ a, a ∈ l → G a
  | 0, s, acc, l, r, h, ha => by cases h; exact ha
  | n + 1, s, acc, l, r, h, ha => by
    rw [manyP] at h
    obtain ⟨a, r1, h1, h2⟩ := then_ok_inv h
    refine manyP_all hp n _ _ _ _ h2 fun b hb => ?_
    rcases List.mem_append.1 hb with hb | hb
    · exact ha b hb
    · simp at hb
      subst hb
      exact hp _ _ _ h1
theorem many_good {α : Type} {p : Bs → Pr α} {G : α → Prop} (hp : ∀ s a r, p s = .ok a r → G a) {n : Nat} {s : Bs} {l : List α} {r : Bs} (h : manyP p n s [] = .ok l r) : l.length = n ∧ ∀ a, a ∈ l → G a :=
  ⟨by have := manyP_len p n s [] l r h; simpa using this, manyP_all hp n s [] l r h (fun a ha => by simp at ha)⟩
theorem conP_mem {L : List Con} {k : Nat} {s r : Bs} {c : Con} (h : conP L k s = .ok c r) : c ∈ L ∧ c.kind = k := by
  unfold conP at h
  obtain ⟨i, r1, _, h2⟩ := then_ok_inv h
  unfold atP at h2
  cases hk : kAt L i k with
  | none => rw [hk] at h2; cases h2
  | some x =>
    rw [hk] at h2
    injection h2 with h3 _
    subst h3
    obtain ⟨h4, h5⟩ := kAt_some hk
    exact ⟨List.mem_of_getElem? h4, h5⟩
theorem clsP_name {L : List Con} (hg : ∀ c, c ∈ L → GoodC c) {s r : Bs} {t : Bs} (h : clsP L s = .ok t r) : nameB t false = true := by
  unfold clsP at h
  obtain ⟨c, r1, h1, h2⟩ := then_ok_inv h
  obtain ⟨h3, h4⟩ := conP_mem h1
  unfold flatP at h2
  split at h2
  · cases h2
  · rename_i h5
    injection h2 with h6 _
    subst h6
    have h7 := (hg c h3).named h4
    unfold namedB at h7
    rw [Bool.or_eq_true] at h7
    rcases h7 with h7 | h7
    · exact h7
    · rw [Bool.and_eq_true] at h7
      exact absurd (by simpa using h7.1) h5
theorem tysP_len {L : List Con} {most : Nat} {s r : Bs} {l : List Bs} (h : tysP L most s = .ok l r) : l.length ≤ most := by
  unfold tysP at h
  obtain ⟨n, r1, h1, h2⟩ := then_ok_inv h
  have := cntP_le h1
  have := (many_good (G := fun _ => True) (fun _ _ _ _ => trivial) h2).1
  omega
theorem frmP_len {L : List Con} {s r : Bs} {f : Frm} (h : frmP L s = .ok f r) : f.locals.length ≤ 40 ∧ f.stack.length ≤ 20 := by
  unfold frmP at h
  obtain ⟨pc, r1, h1, h⟩ := then_ok_inv h
  obtain ⟨a, r2, h2, h⟩ := then_ok_inv h
  obtain ⟨b, r3, h3, h⟩ := then_ok_inv h
  cases h
  exact ⟨tysP_len h2, tysP_len h3⟩
theorem flg8 {f : Nat} (h : f &&& 8 = f) : f = 0 ∨ f = 8 := by
  have hle : f ≤ 8 := by rw [← h]; exact Nat.and_le_right
  have := (by decide : ∀ f : Fin 9, f.val &&& 8 = f.val → f.val = 0 ∨ f.val = 8) ⟨f, by omega⟩ h
  exact this
theorem fldP_good {L : List Con} {cl : Nat} (hcl : cl = 0 ∨ cl = 1024 ∨ cl = 1536) {s r : Bs} {f : Fld} (h : fldP L cl s = .ok f r) : GoodF cl f := by
  have hb : (cl &&& 512 ≠ 0) ↔ cl = 1536 := by rcases hcl with rfl | rfl | rfl <;> decide
  unfold fldP at h
  obtain ⟨fl, r1, h1, h⟩ := then_ok_inv h
  obtain ⟨m, r2, h2, h⟩ := then_ok_inv h
  unfold fldJ at h
  split at h
  · cases h
  split at h
  · cases h
  split at h
  · cases h
  rename_i g1 g2 g3
  injection h with h _
  subst h
  exact ⟨by simpa using g1, by simpa using g2, flg8 (flgP_bits h1), fun e h0 => g3 ⟨hb.2 e, h0⟩⟩
theorem bdyP_good {L : List Con} {f : Nat} {m : Bs × Bs} {s r : Bs} {mm : Met} (h : bdyP L f m s = .ok mm r) : mm.flags = f ∧ mm.name = m.1 ∧ mm.desc = m.2 ∧ mm.stack ≤ 20 ∧ mm.locals ≤ 40 ∧ mm.code.length ≤ 4000 ∧ mm.rows.length ≤ 60 ∧ mm.frames.length ≤ 4000 ∧ ∀ f, f ∈ mm.frames → f.locals.length ≤ 40 ∧ f.stack.length ≤ 20 := by
  unfold bdyP at h
  obtain ⟨st, r1, h1, h⟩ := then_ok_inv h
  obtain ⟨lo, r2, h2, h⟩ := then_ok_inv h
  obtain ⟨n, r3, h3, h⟩ := then_ok_inv h
  obtain ⟨code, r4, h4, h⟩ := then_ok_inv h
  obtain ⟨k, r5, h5, h⟩ := then_ok_inv h
  obtain ⟨rows, r6, h6, h⟩ := then_ok_inv h
  obtain ⟨q, r7, h7, h⟩ := then_ok_inv h
  obtain ⟨frames, r8, h8, h⟩ := then_ok_inv h
  injection h with h _
  subst h
  have e1 := cntP_le h1
  have e2 := cntP_le h2
  have e3 := cntP_le h3
  have e5 := cntP_le h5
  have e7 := cntP_le h7
  have e4 := (bytP_len h4).1
  have e6 := (many_good (G := fun _ => True) (fun _ _ _ _ => trivial) h6).1
  have e8 := many_good (fun _ _ _ h => frmP_len h) h8
  exact ⟨rfl, rfl, rfl, e1, e2, by show code.length ≤ 4000; omega, by show rows.length ≤ 60; omega, by show frames.length ≤ 4000; omega, e8.2⟩
theorem metP_good {L : List Con} {cl : Nat} (hcl : cl = 0 ∨ cl = 1024 ∨ cl = 1536) {s r : Bs} {mm : Met} (h : metP L cl s = .ok mm r) : GoodM cl mm := by
  unfold metP at h
  obtain ⟨fl, r1, h1, h⟩ := then_ok_inv h
  obtain ⟨m, r2, h2, h⟩ := then_ok_inv h
  have hf := bits1032 (flgP_bits h1)
  unfold metJ at h
  split at h
  · cases h
  split at h
  · cases h
  split at h
  · cases h
  rename_i g1 g2 g3
  have g1' : nameB m.1 true = true := by simpa using g1
  have g2' : (metB m.2).isSome = true := by
    cases hq : (metB m.2).isSome with
    | true => rfl
    | false => exact absurd hq g2
  have g3' : metFit cl fl = true := by simpa using g3
  have hfit : (fl = 1024 ∧ cl ≠ 0) ∨ ((fl = 0 ∨ fl = 8) ∧ cl ≠ 1536) := by
    rcases hf with rfl | rfl | rfl | rfl <;> rcases hcl with rfl | rfl | rfl <;> first | (exact absurd g3' (by decide)) | simp
  rcases hfit with ⟨rfl, hc⟩ | ⟨hfl, hc⟩
  · rw [if_neg (by decide)] at h
    injection h with h _
    subst h
    exact ⟨g1', g2', .inr (.inr rfl), Nat.zero_le _, Nat.zero_le _, Nat.zero_le _, Nat.zero_le _, Nat.zero_le _, fun f hf => by simp at hf, fun _ => ⟨hc, rfl, rfl, rfl, rfl, rfl⟩, fun _ => rfl⟩
  · have hz : fl &&& 1024 = 0 := by rcases hfl with rfl | rfl <;> decide
    rw [if_pos hz] at h
    obtain ⟨b1, b2, b3, b4, b5, b6, b7, b8, b9⟩ := bdyP_good h
    exact ⟨by rw [b2]; exact g1', by rw [b3]; exact g2', by rw [b1]; rcases hfl with rfl | rfl <;> simp, b4, b5, b6, b7, b8, b9, fun e => by rw [b1] at e; omega, fun e => absurd e hc⟩
theorem behP_good {L : List Con} (hg : ∀ c, c ∈ L → GoodC c) (hl : L.length ≤ 1000) {s r : Bs} {c : Cls} (h : behP L s = .ok c r) : GoodK c := by
  unfold behP at h
  obtain ⟨cf, r1, h1, h⟩ := then_ok_inv h
  split at h
  · cases h
  rename_i h512
  have hf := bits1536 (flgP_bits h1)
  have hcl : cf = 0 ∨ cf = 1024 ∨ cf = 1536 := by omega
  obtain ⟨nm, r2, h2, h⟩ := then_ok_inv h
  obtain ⟨sp, r3, h3, h⟩ := then_ok_inv h
  obtain ⟨a, r4, h4, h⟩ := then_ok_inv h
  obtain ⟨is, r5, h5, h⟩ := then_ok_inv h
  obtain ⟨b, r6, h6, h⟩ := then_ok_inv h
  obtain ⟨fs, r7, h7, h⟩ := then_ok_inv h
  obtain ⟨d, r8, h8, h⟩ := then_ok_inv h
  obtain ⟨ms, r9, h9, h⟩ := then_ok_inv h
  injection h with h _
  subst h
  have c1 := cntP_le h4
  have c2 := cntP_le h6
  have c3 := cntP_le h8
  have e1 := (many_good (G := fun _ => True) (fun _ _ _ _ => trivial) h5).1
  have e2 := many_good (fun _ _ _ h => fldP_good hcl h) h7
  have e3 := many_good (fun _ _ _ h => metP_good hcl h) h9
  exact ⟨clsP_name hg h2, clsP_name hg h3, hcl, by show is.length ≤ 8; omega, hl, by show fs.length ≤ 60; omega, by show ms.length ≤ 60; omega, e2.2, e3.2⟩
/-- The document's answer at the end of a file. -/
theorem par_link {l : Bs} {x : Nat} {s2 : St} {L : List Con} {c : Cls} {tz : Sg} (hm : ¬ (l.length < 4 ∨ l.take 4 ≠ [82, 69, 71, 76])) (hx : poolX (l.drop 4, false) = x) (hs : poolS (l.drop 4, false) = s2) (hL : x = 0 → L = poolL (l.drop 4, false)) (hb : rBeh L (x, s2) = (c, tz)) :
    (∃ r, filP l = .ok c r ∧ (rEnd c tz).1 = 0) ∨ (filP l = .er (rEnd c tz).1 ∧ (rEnd c tz).1 ≠ 0) := by
  unfold filP
  rw [if_neg hm, hx]
  by_cases h0 : x = 0
  · subst h0
    rw [if_neg (by simp)]
    have hL' := hL rfl
    subst hL'
    have hw := poolS_whole hx
    rw [hs] at hw
    have hlk := lk_close (lk_beh (poolL_zero _ hx 7 (by decide)) (poolL_zero _ hx 1 (by decide)) s2.1)
    have e : g0 s2.1 = (0, s2) := by obtain ⟨a, b⟩ := s2; simp at hw; subst hw; rfl
    rw [e, hb] at hlk
    rw [hs]
    cases hp : (behP (poolL (l.drop 4, false)) s2.1).then endC with
    | ok d r =>
      rw [hp] at hlk
      have hlk' : (c, rEnd c tz) = (d, g0 r) := hlk
      injection hlk' with h1 h2
      subst h1
      exact .inl ⟨r, rfl, by rw [h2]⟩
    | er y =>
      rw [hp] at hlk
      have hlk' : y ≠ 0 ∧ (rEnd c tz).1 = y := hlk
      exact .inr ⟨by rw [hlk'.2], by rw [hlk'.2]; exact hlk'.1⟩
  · rw [if_pos h0]
    have h1 := rBeh_stay (L := L) (σ := (x, s2)) h0
    rw [hb] at h1
    have h1' : tz.1 = x := h1
    have h2 : (rEnd c tz).1 = x := by rw [rEnd_stay (by rw [h1']; exact h0), h1']
    exact .inr ⟨by rw [h2], by rw [h2]; exact h0⟩
/-- Where nothing is wrong the class is within its limits. -/
theorem par_good {l : Bs} {x : Nat} {s2 : St} {L : List Con} {c : Cls} {tz : Sg} (hx : poolX (l.drop 4, false) = x) (hs : poolS (l.drop 4, false) = s2) (hL : x = 0 → L = poolL (l.drop 4, false)) (hb : rBeh L (x, s2) = (c, tz)) (hg : ∀ c, c ∈ L → GoodC c) (hl : L.length ≤ 1000) (h0 : tz.1 = 0) : x = 0 ∧ GoodK c := by
  by_cases hx0 : x = 0
  · subst hx0
    have hL' := hL rfl
    subst hL'
    have hw := poolS_whole hx
    rw [hs] at hw
    have hlk := lk_beh (poolL_zero _ hx 7 (by decide)) (poolL_zero _ hx 1 (by decide)) s2.1
    have e : g0 s2.1 = (0, s2) := by obtain ⟨a, b⟩ := s2; simp at hw; subst hw; rfl
    rw [e, hb] at hlk
    cases hp : behP (poolL (l.drop 4, false)) s2.1 with
    | ok d r =>
      rw [hp] at hlk
      have hlk' : (c, tz) = (d, g0 r) := hlk
      injection hlk' with h1 h2
      subst h1
      exact ⟨rfl, behP_good hg hl hp⟩
    | er y =>
      rw [hp] at hlk
      have hlk' : y ≠ 0 ∧ tz.1 = y := hlk
      exact absurd (hlk'.2.symm.trans h0) hlk'.1
  · have h1 := rBeh_stay (L := L) (σ := (x, s2)) hx0
    rw [hb] at h1
    have h1' : tz.1 = x := h1
    exact absurd (h1'.symm.trans h0) hx0
end Go.Proofs.YtdlmadckpcnkoaaGreat
/- Contract of the document's twice. Written by gen_twice.py. -/
namespace Go.Proofs.YtdlmadckpcnkoaaGreat
open Go.RowKit Go
set_option linter.unusedVariables false

def mkI (m : MeI) : Bs × Bs := (m.name, m.desc)
theorem tx_eq2 {a b : Bs} (h : a = b) : ((tx a).toList == (tx b).toList) = true := by rw [h]; simp
theorem tx_neb {a b : Bs} (h : ¬ a = b) : ((tx a).toList == (tx b).toList) = false := by rw [beq_eq_false_iff_ne]; exact tx_ne h
theorem nodup_on {α : Type} {l : List α} {i : Nat} {a : α} (ha : l[i]? = some a) (h : (l.take i).Nodup) : (a ∈ l.take i → ¬ l.Nodup) ∧ (a ∉ l.take i → (l.take (i + 1)).Nodup) := by
  have ht := take_snoc l i a ha
  refine ⟨fun hm hl => ?_, fun hm => ?_⟩
  · have h2 : (l.take (i + 1)).Nodup := hl.sublist (List.take_sublist _ _)
    rw [ht, List.nodup_append] at h2
    exact h2.2.2 a hm a (by simp) rfl
  · rw [ht, List.nodup_append]
    refine ⟨h, by simp, fun x hx y hy e => ?_⟩
    simp at hy
    subst hy
    subst e
    exact hm hx
theorem mem_take {α β : Type} {l : List α} {j k : Nat} {a : α} (h : l[j]? = some a) (f : α → β) (hj : j < k) : f a ∈ (l.map f).take k := by
  have h2 : ((l.map f).take k)[j]? = some (f a) := by rw [List.getElem?_take_of_lt hj, List.getElem?_map, h]; rfl
  exact List.mem_of_getElem? h2
set_option maxHeartbeats 16000000 in
set_option maxRecDepth 100000 in
theorem rtwice_any (c : ClI) (v : Value) (w : World) (h : Hid (ClIV w c v)) :
    Calls Tryz.prog 40 #[v] w (SOut (¬ (c.fields.map FlI.name).Nodup ∨ ¬ (c.methods.map mkI).Nodup) w) := by
  obtain ⟨a, p, b, d, rfl, h1, h2, h3, h4⟩ := h.out
  obtain ⟨bA, bc, rfl⟩ := h3.shape
  obtain ⟨dA, dc, rfl⟩ := h4.shape
  have l3 := h3.len
  have l4 := h4.len
  have HX := lhid (heap_alloc_new w (.cells #[.int .i64 c.flags, .string (tx c.name), .string (tx c.super), a, p, .slice bA c.fields.length bc, .slice dA c.methods.length dc] 29))
  have HB := lhid ((Below.refl w.heap.size w).alloc (Nat.le_refl _) (.cells #[.int .i64 c.flags, .string (tx c.name), .string (tx c.super), a, p, .slice bA c.fields.length bc, .slice dA c.methods.length dc] 29))
  have H3 := lhid (h3.below kept_fl HB.out)
  have H4 := lhid (h4.below kept_me HB.out)
  clear h1 h2 h3 h4 h
  go_enter Tryz.func40, Tryz.ntmps40
  go_wp2_with fail
  generalize w.alloc (.cells #[.int .i64 c.flags, .string (tx c.name), .string (tx c.super), a, p, .slice bA c.fields.length bc, .slice dA c.methods.length dc] 29) = W at *
  have p5 := heap_cell (i := 5) HX.out rfl
  have p6 := heap_cell (i := 6) HX.out rfl
  go_loopw [3] (fun i wr => ∃ k n : Nat, i = .int .i64 k ∧ k ≤ c.fields.length ∧ Hid ((c.fields.map FlI.name).take k).Nodup ∧ wr = W.drewN n) (fun i _ => c.fields.length - (intOf i).toNat)
  case atStart => exact ⟨0, 0, rfl, Nat.zero_le _, lhid (by simp), rfl⟩
  case round =>
    obtain ⟨k, n, rfl, hk, HN, rfl⟩ := hrel
    by_cases hlt : k < c.fields.length
    · obtain ⟨x, hx⟩ : ∃ x, c.fields[k]? = some x := ⟨_, List.getElem?_eq_getElem hlt⟩
      have HXX := lhid hx
      have hnx := nodup_on (l := (c.fields.map FlI.name)) (i := k) (a := x.name) (by rw [List.getElem?_map, hx]; rfl) HN.out
      have HNX := lhid hnx
      clear hnx hx
      obtain ⟨g, o, cc, hA, hE, hc⟩ := H3.out.at' HXX.out
      obtain rfl := hE
      obtain rfl := hA
      have a1 := hc 1 _ rfl
      clear hc
      have k3 : (k : Int) < c.fields.length := by omega
      go_wp2_with fail
      go_loopw [4] (fun i wr => ∃ j q : Nat, i = .int .i64 j ∧ j ≤ k ∧ Hid (x.name ∉ (c.fields.map FlI.name).take j) ∧ wr = W.drewN q) (fun i _ => k - (intOf i).toNat)
      case atStart => exact ⟨0, n, rfl, Nat.zero_le _, lhid (by simp), rfl⟩
      case round =>
        obtain ⟨j, q, rfl, hj, HM, rfl⟩ := hrel
        by_cases hjl : j < k
        · obtain ⟨y, hy⟩ : ∃ y, c.fields[j]? = some y := ⟨_, List.getElem?_eq_getElem (by omega)⟩
          have HYY := lhid hy
          have hyk : (c.fields.map FlI.name)[j]? = some y.name := by rw [List.getElem?_map, hy]; rfl
          have hts := take_snoc (c.fields.map FlI.name) j _ hyk
          have HTS := lhid hts
          clear hyk hts
          obtain ⟨g', o', cc', hA', hE', hc'⟩ := H3.out.at' hy
          obtain ⟨rfl, rfl⟩ : g = g' ∧ o = o' := by injection hA' with e; injection e with e1 e2; exact ⟨e1, e2⟩
          obtain rfl := hE'
          clear hy hA'
          have b1 := hc' 1 _ rfl
          have k4 : (j : Int) < c.fields.length := by omega
          have k5 : (j : Int) < k := by omega
          clear hc'
          by_cases hxy : x.name = y.name
          · have d0 := tx_eq2 hxy
            have HDUP := lhid (HNX.out.1 (by rw [hxy]; exact mem_take HYY.out FlI.name hjl))
            clear hxy
            go_wp2_with fail
            go_quiet (fail)
            go_wp2_with fail
            go_ret
            exact sout_yes (.inl HDUP.out) (Below.drewN' (Below.drewN' HB.out _) _)
          · have d0 := tx_neb hxy
            have HM2 : Hid (x.name ∉ (c.fields.map FlI.name).take (j + 1)) := lhid (by rw [HTS.out]; simp; exact ⟨by simpa using HM.out, hxy⟩)
            clear hxy
            go_wp2_with fail
            go_quiet (fail)
            go_wp2_with fail
            go_roundw
            case rel => exact ⟨j + 1, _, by go_num, by omega, HM2, rfl⟩
            case measure => simp [intOf]; omega
        · have hjk : j = k := by omega
          have k5 : ¬ (j : Int) < k := by omega
          have hm := HM.out
          rw [hjk] at hm
          have HND := lhid (HNX.out.2 hm)
          clear hm hjk
          go_wp2_with fail
          go_roundw
          case rel => exact ⟨k + 1, _, by go_num, by omega, HND, rfl⟩
          case measure => simp [intOf]; omega
    · have hkl : k = c.fields.length := by omega
      have k3 : ¬ (k : Int) < c.fields.length := by omega
      have hnd := HN.out
      rw [List.take_of_length_le (by rw [List.length_map]; omega)] at hnd
      have HND3 := lhid hnd
      clear hnd hkl HN
      go_wp2_with fail
      go_loopw [5] (fun i wr => ∃ k n : Nat, i = .int .i64 k ∧ k ≤ c.methods.length ∧ Hid ((c.methods.map mkI).take k).Nodup ∧ wr = W.drewN n) (fun i _ => c.methods.length - (intOf i).toNat)
      case atStart => exact ⟨0, n, rfl, Nat.zero_le _, lhid (by simp), rfl⟩
      case round =>
        obtain ⟨k, n, rfl, hk, HN, rfl⟩ := hrel
        by_cases hlt : k < c.methods.length
        · obtain ⟨x, hx⟩ : ∃ x, c.methods[k]? = some x := ⟨_, List.getElem?_eq_getElem hlt⟩
          have HXX := lhid hx
          have hnx := nodup_on (l := (c.methods.map mkI)) (i := k) (a := (x.name, x.desc)) (by rw [List.getElem?_map, hx]; rfl) HN.out
          have HNX := lhid hnx
          clear hnx hx
          obtain ⟨g, o, cc, hA, hE, hc⟩ := H4.out.at' HXX.out
          obtain ⟨xa, xb, xd, rfl, _⟩ := hE
          obtain rfl := hA
          have a1 := hc 1 _ rfl
          have a2 := hc 2 _ rfl
          clear hc
          have k3 : (k : Int) < c.methods.length := by omega
          go_wp2_with fail
          go_loopw [6] (fun i wr => ∃ j q : Nat, i = .int .i64 j ∧ j ≤ k ∧ Hid ((x.name, x.desc) ∉ (c.methods.map mkI).take j) ∧ wr = W.drewN q) (fun i _ => k - (intOf i).toNat)
          case atStart => exact ⟨0, n, rfl, Nat.zero_le _, lhid (by simp), rfl⟩
          case round =>
            obtain ⟨j, q, rfl, hj, HM, rfl⟩ := hrel
            by_cases hjl : j < k
            · obtain ⟨y, hy⟩ : ∃ y, c.methods[j]? = some y := ⟨_, List.getElem?_eq_getElem (by omega)⟩
              have HYY := lhid hy
              have hyk : (c.methods.map mkI)[j]? = some (y.name, y.desc) := by rw [List.getElem?_map, hy]; rfl
              have hts := take_snoc (c.methods.map mkI) j _ hyk
              have HTS := lhid hts
              clear hyk hts
              obtain ⟨g', o', cc', hA', hE', hc'⟩ := H4.out.at' hy
              obtain ⟨rfl, rfl⟩ : g = g' ∧ o = o' := by injection hA' with e; injection e with e1 e2; exact ⟨e1, e2⟩
              obtain ⟨ya, yb, yd, rfl, _⟩ := hE'
              clear hy hA'
              have b1 := hc' 1 _ rfl
              have b2 := hc' 2 _ rfl
              have k4 : (j : Int) < c.methods.length := by omega
              have k5 : (j : Int) < k := by omega
              clear hc'
              by_cases hxy : x.name = y.name
              · have d0 := tx_eq2 hxy
                by_cases hxz : x.desc = y.desc
                · have d1 := tx_eq2 hxz
                  have HDUP := lhid (HNX.out.1 (by rw [hxy, hxz]; exact mem_take HYY.out mkI hjl))
                  clear hxy hxz
                  go_wp2_with fail
                  go_quiet (fail)
                  go_wp2_with fail
                  go_ret
                  exact sout_yes (.inr HDUP.out) (Below.drewN' (Below.drewN' HB.out _) _)
                · have d1 := tx_neb hxz
                  have HM2 : Hid ((x.name, x.desc) ∉ (c.methods.map mkI).take (j + 1)) := lhid (by rw [HTS.out, List.mem_append]; rintro (h | h); exact HM.out h; simp at h; exact hxz h.2)
                  clear hxy hxz
                  go_wp2_with fail
                  go_quiet (fail)
                  go_wp2_with fail
                  go_roundw
                  case rel => exact ⟨j + 1, _, by go_num, by omega, HM2, rfl⟩
                  case measure => simp [intOf]; omega
              · have d0 := tx_neb hxy
                have HM2 : Hid ((x.name, x.desc) ∉ (c.methods.map mkI).take (j + 1)) := lhid (by rw [HTS.out, List.mem_append]; rintro (h | h); exact HM.out h; simp at h; exact hxy h.1)
                clear hxy
                go_wp2_with fail
                go_quiet (fail)
                go_wp2_with fail
                go_roundw
                case rel => exact ⟨j + 1, _, by go_num, by omega, HM2, rfl⟩
                case measure => simp [intOf]; omega
            · have hjk : j = k := by omega
              have k5 : ¬ (j : Int) < k := by omega
              have hm := HM.out
              rw [hjk] at hm
              have HND := lhid (HNX.out.2 hm)
              clear hm hjk
              go_wp2_with fail
              go_roundw
              case rel => exact ⟨k + 1, _, by go_num, by omega, HND, rfl⟩
              case measure => simp [intOf]; omega
        · have hkl : k = c.methods.length := by omega
          have k3 : ¬ (k : Int) < c.methods.length := by omega
          have hnd := HN.out
          rw [List.take_of_length_le (by rw [List.length_map]; omega)] at hnd
          have HND5 := lhid hnd
          clear hnd hkl HN
          go_wp2_with fail
          go_ret
          exact sout_no (fun h => h.elim (fun h => h HND3.out) (fun h => h HND5.out)) (Below.drewN' HB.out _)
end Go.Proofs.YtdlmadckpcnkoaaGreat
