/- Arguments that are classes, lists of them and the like, opened: what memory holds of them, under the second form's bound. -/
import Derived.Test.YtkphpihggbbpkaaKinBase
import Derived.Test.YtkphpihggbbpkaaRows
import Derived.ChangeSlices
import Derived.OpenShut
import Derived.WideShapes
import Derived.SizedLaws
import Derived.RowKit
import Derived.Deep.Slices
namespace Go.Proofs.Ytkphpihggbbpkaa
open Go.RowKit Go Go.ChangeShapes Go.WideShapes
set_option linter.unusedVariables false
set_option linter.unusedSimpArgs false

def I64 (n : Int) : Prop := -9223372036854775808 ≤ n ∧ n ≤ 9223372036854775807
def T20 (t : Bs) : Prop := t.length ≤ 1048576
def Tru (_ : Nat) : Prop := True
theorem one_bulk {H : Type} (d : DataW H) : 1 ≤ Rows.uptoBulk d := by
  cases d with
  | lit l => cases l <;> simp [Rows.uptoBulk]
  | _ => simp [Rows.uptoBulk]
theorem bulk_mem {H : Type} : ∀ {l : List (DataW H)} {d : DataW H}, d ∈ l → Rows.uptoBulk d ≤ Rows.uptoBulkAll l
  | [], _, h => by simp at h
  | x :: l, d, h => by
    simp only [Rows.uptoBulkAll]
    rcases List.mem_cons.1 h with rfl | h
    · omega
    · have := bulk_mem h
      omega
theorem bulk_len {H : Type} : ∀ l : List (DataW H), l.length ≤ Rows.uptoBulkAll l
  | [] => by simp [Rows.uptoBulkAll]
  | x :: l => by
    have h1 := bulk_len l
    have h2 := one_bulk x
    simp only [Rows.uptoBulkAll, List.length_cons]
    omega
theorem bulk_tx {H : Type} (t : Bs) (h : Rows.uptoBulk (DataW.lit (.string (tx t).data.toList) : DataW H) ≤ 1048576) : T20 t := by
  simp [Rows.uptoBulk, tx] at h
  unfold T20
  omega
theorem tx_any (s : ByteArray) : ∃ t : Bs, s = tx t := ⟨s.data.toList, by cases s; simp [tx]⟩
section
variable {P : Program} {H : Type} {enc : TypeId × Value → H} {w : World} {base fuel : Nat}
theorem fields_of {t : TypeId} {fs : Array Field} {cs : List Value} {d : DataW H} {ps : List MemPlace} (ht : P.underlying t = some (.struct fs)) (h : DataW.trod enc P w base (fun _ => true) true fuel t cs = some (d, ps)) (hb : Rows.uptoBulk d ≤ 1048576) :
    ∃ parts, d = .agg parts ∧ parts.length = fs.size ∧ ∀ (i : Nat) (f : Field), fs[i]? = some f → ∃ n d' ps', parts[i]? = some d' ∧ DataW.trod enc P w base (fun _ => true) true n f.type ((cs.drop f.offset).take (P.cellsOf f.type)) = some (d', ps') ∧ Rows.uptoBulk d' ≤ 1048576 := by
  obtain ⟨xs, n, _, hx, _, hl, hfs⟩ := DataW.trod_struct ht h
  simp only [Prod.mk.injEq] at hx
  refine ⟨xs.map (·.1), hx.1, by rw [List.length_map, hl], fun i f hf => ?_⟩
  have h1 := hfs i f hf
  have hi : i < xs.length := by
    rw [hl]
    exact (Array.getElem?_eq_some_iff.1 hf).1
  rw [List.getElem?_eq_getElem hi] at h1
  have hp : (xs.map (·.1))[i]? = some (xs[i]).1 := by rw [List.getElem?_map, List.getElem?_eq_getElem hi]; rfl
  refine ⟨n, (xs[i]).1, (xs[i]).2, hp, h1, ?_⟩
  have := bulk_mem (List.mem_of_getElem? hp)
  rw [hx.1] at hb
  simp only [Rows.uptoBulk] at hb
  omega
theorem open_list {α : Type} [Inhabited α] {E : World → α → List Value → Prop} {t e : TypeId} {k : Nat} {v : Value} {d : DataW H} {ps : List MemPlace} (ht : P.underlying t = some (.slice e)) (ce : P.cellsOf e = k) (hk : 0 < k)
    (each : ∀ fuel cs d ps, cs.length = k → DataW.trod enc P w base (fun _ => true) true fuel e cs = some (d, ps) → Rows.uptoBulk d ≤ 1048576 → ∃ x : α, E w x cs)
    (h : DataW.trod enc P w base (fun _ => true) true fuel t [v] = some (d, ps)) (hb : Rows.uptoBulk d ≤ 1048576) : ∃ l : List α, RdX Tru k E w v l ∧ l.length ≤ 1048576 := by
  rcases Go.Deep.open_slice ht h with ⟨hcs, hx⟩ | ⟨a, len, cap, m, n, D, Pl, hcs, _, hl, hm, hmm, hx, hel⟩
  · simp at hcs
    subst hcs
    exact ⟨[], rdX_nil _ _ _ _ _ _ (fun _ => rfl), by simp⟩
  · simp at hcs
    subst hcs
    simp only [if_true] at hmm
    simp only [Prod.mk.injEq] at hx
    have hd := hx.1
    subst hd
    have hb' : Rows.uptoBulkAll ((List.range len).map D) < 1048576 := by
      simp only [Rows.uptoBulk] at hb
      omega
    have hlen : len ≤ 1048576 := by
      have := bulk_len ((List.range len).map D)
      rw [List.length_map, List.length_range] at this
      omega
    have got : ∀ i, i < len → ∃ x : α, ∃ cs', E w x cs' ∧ w.cells? base (a.add (i * k)) k = some cs' := by
      intro i hi
      obtain ⟨cs', h1, h2⟩ := hel i (by omega)
      rw [ce] at h1
      obtain ⟨_, hcl, _⟩ := World.cells?_some h1
      have hbi := bulk_mem (l := (List.range len).map D) (d := D i) (List.mem_map.2 ⟨i, List.mem_range.2 hi, rfl⟩)
      obtain ⟨x, hx'⟩ := each n cs' (D i) (Pl i) hcl h2 (by omega)
      exact ⟨x, cs', hx', h1⟩
    obtain ⟨f, hf⟩ := Go.Deep.choose_lt got
    have hfl : ((List.range len).map f).length = len := by simp
    refine ⟨(List.range len).map f, ⟨some a, cap, by rw [hfl], fun e => (by cases e), by rw [hfl]; omega, fun i x hi => ?_⟩, by rw [hfl]; exact hlen⟩
    have hil : i < len := by
      have := (List.getElem?_eq_some_iff.1 hi).1
      omega
    rw [List.getElem?_map, List.getElem?_range hil] at hi
    simp only [Option.map_some, Option.some.injEq] at hi
    subst hi
    obtain ⟨cs', hE, hc⟩ := hf i hil
    obtain ⟨_, hcl, hcell⟩ := World.cells?_some hc
    obtain ⟨b, o, sp⟩ := a
    have hs : sp = none := by
      obtain ⟨cs0, _, hc0⟩ := hf 0 (by omega)
      obtain ⟨_, hl0, hcell0⟩ := World.cells?_some hc0
      have h0 := hcell0 0 hk
      rw [List.getElem?_eq_getElem (by omega)] at h0
      have := World.cell?_spot h0
      simpa [Addr.add] using this
    subst hs
    refine ⟨b, o, cs', rfl, trivial, hE, fun j u hj => ?_⟩
    have hjk : j < k := by
      have := (List.getElem?_eq_some_iff.1 hj).1
      omega
    have hc' := hcell j hjk
    rw [Go.Deep.add_add, add_plain, ← Nat.add_assoc] at hc'
    exact hc'.trans hj
end
/-- What holds of each thing of the list besides. -/
theorem RdX.part {α : Type} {P : Nat → Prop} {k : Nat} {E : World → α → List Value → Prop} {Q : α → Prop} {w : World} {v : Value} {l : List α} (h : RdX P k (fun w x c => E w x c ∧ Q x) w v l) : RdX P k E w v l ∧ ∀ x ∈ l, Q x := by
  obtain ⟨A, cap, h1, h0, h2, h3⟩ := h
  refine ⟨⟨A, cap, h1, h0, h2, fun i a hi => ?_⟩, fun x hx => ?_⟩
  · obtain ⟨g, o, c, h4, hp, h5, h6⟩ := h3 i a hi
    exact ⟨g, o, c, h4, hp, h5.1, h6⟩
  · obtain ⟨i, hi, rfl⟩ := List.getElem_of_mem hx
    obtain ⟨g, o, c, h4, hp, h5, h6⟩ := h3 i _ (List.getElem?_eq_getElem hi)
    exact h5.2
def CoQ (x : CoI) : Prop := I64 x.kind ∧ I64 x.num ∧ T20 x.text ∧ T20 x.name ∧ T20 x.desc
def FlQ (x : FlI) : Prop := I64 x.flags ∧ T20 x.name ∧ T20 x.desc
def RwQ (x : RwI) : Prop := I64 x.fr ∧ I64 x.too ∧ I64 x.at_ ∧ T20 x.cls
def FrQ (x : FrI) : Prop := I64 x.pc ∧ ((∀ t ∈ x.locals, T20 t) ∧ x.locals.length ≤ 1048576) ∧ (∀ t ∈ x.stack, T20 t) ∧ x.stack.length ≤ 1048576
def MeQ (m : MeI) : Prop := I64 m.flags ∧ T20 m.name ∧ T20 m.desc ∧ I64 m.stack ∧ I64 m.locals ∧ m.code.length ≤ 1048576 ∧ ((∀ x ∈ m.rows, RwQ x) ∧ m.rows.length ≤ 1048576) ∧ (∀ x ∈ m.frames, FrQ x) ∧ m.frames.length ≤ 1048576
def ClQ (c : ClI) : Prop := I64 c.flags ∧ T20 c.name ∧ T20 c.super ∧ ((∀ t ∈ c.ifaces, T20 t) ∧ c.ifaces.length ≤ 1048576) ∧ ((∀ x ∈ c.pool, CoQ x) ∧ c.pool.length ≤ 1048576) ∧ ((∀ x ∈ c.fields, FlQ x) ∧ c.fields.length ≤ 1048576) ∧ (∀ x ∈ c.methods, MeQ x) ∧ c.methods.length ≤ 1048576
instance : Inhabited CoI := ⟨⟨0, 0, [], [], []⟩⟩
instance : Inhabited FlI := ⟨⟨0, [], []⟩⟩
instance : Inhabited RwI := ⟨⟨0, 0, 0, []⟩⟩
instance : Inhabited FrI := ⟨⟨0, [], []⟩⟩
instance : Inhabited MeI := ⟨⟨0, [], [], 0, 0, [], [], []⟩⟩
instance : Inhabited ClI := ⟨⟨0, [], [], [], [], [], []⟩⟩
theorem ocint : Try.prog.cellsOf 3 = 1 := by kernel_rfl
theorem ocint64 : Try.prog.cellsOf 2 = 1 := by kernel_rfl
theorem ocstring : Try.prog.cellsOf 9 = 1 := by kernel_rfl
theorem ocuint8 : Try.prog.cellsOf 5 = 1 := by kernel_rfl
theorem ocLstring : Try.prog.cellsOf 29 = 1 := by kernel_rfl
theorem ocLuint8 : Try.prog.cellsOf 41 = 1 := by kernel_rfl
theorem ocLRow : Try.prog.cellsOf 45 = 1 := by kernel_rfl
theorem ocLFrame : Try.prog.cellsOf 46 = 1 := by kernel_rfl
theorem ocLConst : Try.prog.cellsOf 31 = 1 := by kernel_rfl
theorem ocLField : Try.prog.cellsOf 32 = 1 := by kernel_rfl
theorem ocLMethod : Try.prog.cellsOf 33 = 1 := by kernel_rfl
theorem ocConst : Try.prog.cellsOf 87 = 5 := by kernel_rfl
theorem ocField : Try.prog.cellsOf 44 = 3 := by kernel_rfl
theorem ocRow : Try.prog.cellsOf 98 = 4 := by kernel_rfl
theorem ocFrame : Try.prog.cellsOf 101 = 3 := by kernel_rfl
theorem ocMethod : Try.prog.cellsOf 48 = 8 := by kernel_rfl
theorem ocClass : Try.prog.cellsOf 35 = 7 := by kernel_rfl
section
variable {H : Type} {enc : TypeId × Value → H} {w : World} {base : Nat}
theorem st_each (fuel : Nat) (cs : List Value) (d : DataW H) (ps : List MemPlace) (hl : cs.length = 1) (h : DataW.trod enc Try.prog w base (fun _ => true) true fuel 9 cs = some (d, ps)) (hb : Rows.uptoBulk d ≤ 1048576) : ∃ x : Bs, StE w x cs ∧ T20 x := by
  obtain ⟨s, rfl, hx, _⟩ := DataW.trod_string Try.underlying9 h
  obtain ⟨t, rfl⟩ := tx_any s
  simp at hx
  refine ⟨t, rfl, ?_⟩
  rw [hx.1] at hb
  exact bulk_tx t hb
theorem by_each (fuel : Nat) (cs : List Value) (d : DataW H) (ps : List MemPlace) (hl : cs.length = 1) (h : DataW.trod enc Try.prog w base (fun _ => true) true fuel 5 cs = some (d, ps)) (hb : Rows.uptoBulk d ≤ 1048576) : ∃ x : UInt8, ByE w x cs := by
  obtain ⟨n, rfl, hx, hwf⟩ := DataW.trod_int Try.underlying5 h
  have hb := bounds_u8 hwf
  refine ⟨UInt8.ofNat n.toNat, ?_⟩
  have h1 : (UInt8.ofNat n.toNat).toNat = n.toNat := by
    rw [UInt8.toNat_ofNat']
    exact Nat.mod_eq_of_lt (by omega)
  show [Value.int .u8 n] = [.int .u8 ((UInt8.ofNat n.toNat).toNat : Int)]
  rw [h1]
  congr 2
  omega
set_option maxRecDepth 100000 in
theorem co_each (fuel : Nat) (cs : List Value) (d : DataW H) (ps : List MemPlace) (hl : cs.length = 5) (h : DataW.trod enc Try.prog w base (fun _ => true) true fuel 87 cs = some (d, ps)) (hb : Rows.uptoBulk d ≤ 1048576) : ∃ x : CoI, CoE w x cs ∧ CoQ x := by
  obtain ⟨parts, rfl, hpl, hf⟩ := fields_of Try.underlying87 h hb
  replace hpl : parts.length = 5 := hpl
  match cs, hl, parts, hpl with
  | [y0, y1, y2, y3, y4], _, [d0, d1, d2, d3, d4], _ =>
    obtain ⟨n0, z0, p0, a0, g0, w0⟩ := hf 0 _ rfl
    simp at a0
    subst a0
    obtain ⟨n1, z1, p1, a1, g1, w1⟩ := hf 1 _ rfl
    simp at a1
    subst a1
    obtain ⟨n2, z2, p2, a2, g2, w2⟩ := hf 2 _ rfl
    simp at a2
    subst a2
    obtain ⟨n3, z3, p3, a3, g3, w3⟩ := hf 3 _ rfl
    simp at a3
    subst a3
    obtain ⟨n4, z4, p4, a4, g4, w4⟩ := hf 4 _ rfl
    simp at a4
    subst a4
    clear hf h hb
    simp [ocint, ocint64, ocstring, ocuint8, ocLstring, ocLuint8, ocLRow, ocLFrame, ocLConst, ocLField, ocLMethod] at g0 g1 g2 g3 g4
    obtain ⟨x0, e0, m0, b0⟩ := DataW.trod_int Try.underlying3 g0
    simp at e0
    subst e0
    obtain ⟨x1, e1, m1, b1⟩ := DataW.trod_int Try.underlying2 g1
    simp at e1
    subst e1
    obtain ⟨s2, e2, m2, _⟩ := DataW.trod_string Try.underlying9 g2
    obtain ⟨x2, rfl⟩ := tx_any s2
    simp only [Prod.mk.injEq] at m2
    simp at e2
    subst e2
    rw [m2.1] at w2
    obtain ⟨s3, e3, m3, _⟩ := DataW.trod_string Try.underlying9 g3
    obtain ⟨x3, rfl⟩ := tx_any s3
    simp only [Prod.mk.injEq] at m3
    simp at e3
    subst e3
    rw [m3.1] at w3
    obtain ⟨s4, e4, m4, _⟩ := DataW.trod_string Try.underlying9 g4
    obtain ⟨x4, rfl⟩ := tx_any s4
    simp only [Prod.mk.injEq] at m4
    simp at e4
    subst e4
    rw [m4.1] at w4
    exact ⟨⟨x0, x1, x2, x3, x4⟩, rfl, bounds_i64 b0, bounds_i64 b1, bulk_tx _ w2, bulk_tx _ w3, bulk_tx _ w4⟩
set_option maxRecDepth 100000 in
theorem fl_each (fuel : Nat) (cs : List Value) (d : DataW H) (ps : List MemPlace) (hl : cs.length = 3) (h : DataW.trod enc Try.prog w base (fun _ => true) true fuel 44 cs = some (d, ps)) (hb : Rows.uptoBulk d ≤ 1048576) : ∃ x : FlI, FlE w x cs ∧ FlQ x := by
  obtain ⟨parts, rfl, hpl, hf⟩ := fields_of Try.underlying44 h hb
  replace hpl : parts.length = 3 := hpl
  match cs, hl, parts, hpl with
  | [y0, y1, y2], _, [d0, d1, d2], _ =>
    obtain ⟨n0, z0, p0, a0, g0, w0⟩ := hf 0 _ rfl
    simp at a0
    subst a0
    obtain ⟨n1, z1, p1, a1, g1, w1⟩ := hf 1 _ rfl
    simp at a1
    subst a1
    obtain ⟨n2, z2, p2, a2, g2, w2⟩ := hf 2 _ rfl
    simp at a2
    subst a2
    clear hf h hb
    simp [ocint, ocint64, ocstring, ocuint8, ocLstring, ocLuint8, ocLRow, ocLFrame, ocLConst, ocLField, ocLMethod] at g0 g1 g2
    obtain ⟨x0, e0, m0, b0⟩ := DataW.trod_int Try.underlying3 g0
    simp at e0
    subst e0
    obtain ⟨s1, e1, m1, _⟩ := DataW.trod_string Try.underlying9 g1
    obtain ⟨x1, rfl⟩ := tx_any s1
    simp only [Prod.mk.injEq] at m1
    simp at e1
    subst e1
    rw [m1.1] at w1
    obtain ⟨s2, e2, m2, _⟩ := DataW.trod_string Try.underlying9 g2
    obtain ⟨x2, rfl⟩ := tx_any s2
    simp only [Prod.mk.injEq] at m2
    simp at e2
    subst e2
    rw [m2.1] at w2
    exact ⟨⟨x0, x1, x2⟩, rfl, bounds_i64 b0, bulk_tx _ w1, bulk_tx _ w2⟩
set_option maxRecDepth 100000 in
theorem rw_each (fuel : Nat) (cs : List Value) (d : DataW H) (ps : List MemPlace) (hl : cs.length = 4) (h : DataW.trod enc Try.prog w base (fun _ => true) true fuel 98 cs = some (d, ps)) (hb : Rows.uptoBulk d ≤ 1048576) : ∃ x : RwI, RwE w x cs ∧ RwQ x := by
  obtain ⟨parts, rfl, hpl, hf⟩ := fields_of Try.underlying98 h hb
  replace hpl : parts.length = 4 := hpl
  match cs, hl, parts, hpl with
  | [y0, y1, y2, y3], _, [d0, d1, d2, d3], _ =>
    obtain ⟨n0, z0, p0, a0, g0, w0⟩ := hf 0 _ rfl
    simp at a0
    subst a0
    obtain ⟨n1, z1, p1, a1, g1, w1⟩ := hf 1 _ rfl
    simp at a1
    subst a1
    obtain ⟨n2, z2, p2, a2, g2, w2⟩ := hf 2 _ rfl
    simp at a2
    subst a2
    obtain ⟨n3, z3, p3, a3, g3, w3⟩ := hf 3 _ rfl
    simp at a3
    subst a3
    clear hf h hb
    simp [ocint, ocint64, ocstring, ocuint8, ocLstring, ocLuint8, ocLRow, ocLFrame, ocLConst, ocLField, ocLMethod] at g0 g1 g2 g3
    obtain ⟨x0, e0, m0, b0⟩ := DataW.trod_int Try.underlying3 g0
    simp at e0
    subst e0
    obtain ⟨x1, e1, m1, b1⟩ := DataW.trod_int Try.underlying3 g1
    simp at e1
    subst e1
    obtain ⟨x2, e2, m2, b2⟩ := DataW.trod_int Try.underlying3 g2
    simp at e2
    subst e2
    obtain ⟨s3, e3, m3, _⟩ := DataW.trod_string Try.underlying9 g3
    obtain ⟨x3, rfl⟩ := tx_any s3
    simp only [Prod.mk.injEq] at m3
    simp at e3
    subst e3
    rw [m3.1] at w3
    exact ⟨⟨x0, x1, x2, x3⟩, rfl, bounds_i64 b0, bounds_i64 b1, bounds_i64 b2, bulk_tx _ w3⟩
set_option maxRecDepth 100000 in
theorem fr_each (fuel : Nat) (cs : List Value) (d : DataW H) (ps : List MemPlace) (hl : cs.length = 3) (h : DataW.trod enc Try.prog w base (fun _ => true) true fuel 101 cs = some (d, ps)) (hb : Rows.uptoBulk d ≤ 1048576) : ∃ x : FrI, FrE Tru w x cs ∧ FrQ x := by
  obtain ⟨parts, rfl, hpl, hf⟩ := fields_of Try.underlying101 h hb
  replace hpl : parts.length = 3 := hpl
  match cs, hl, parts, hpl with
  | [y0, y1, y2], _, [d0, d1, d2], _ =>
    obtain ⟨n0, z0, p0, a0, g0, w0⟩ := hf 0 _ rfl
    simp at a0
    subst a0
    obtain ⟨n1, z1, p1, a1, g1, w1⟩ := hf 1 _ rfl
    simp at a1
    subst a1
    obtain ⟨n2, z2, p2, a2, g2, w2⟩ := hf 2 _ rfl
    simp at a2
    subst a2
    clear hf h hb
    simp [ocint, ocint64, ocstring, ocuint8, ocLstring, ocLuint8, ocLRow, ocLFrame, ocLConst, ocLField, ocLMethod] at g0 g1 g2
    obtain ⟨x0, e0, m0, b0⟩ := DataW.trod_int Try.underlying3 g0
    simp at e0
    subst e0
    obtain ⟨x1, r1, l1⟩ := open_list (E := fun w x c => StE w x c ∧ T20 x) Try.underlying29 ocstring (by omega) st_each g1 w1
    obtain ⟨r1, q1⟩ := r1.part
    obtain ⟨x2, r2, l2⟩ := open_list (E := fun w x c => StE w x c ∧ T20 x) Try.underlying29 ocstring (by omega) st_each g2 w2
    obtain ⟨r2, q2⟩ := r2.part
    exact ⟨⟨x0, x1, x2⟩, ⟨_, _, rfl, r1, r2⟩, bounds_i64 b0, ⟨q1, l1⟩, q2, l2⟩
set_option maxRecDepth 100000 in
theorem me_each (fuel : Nat) (cs : List Value) (d : DataW H) (ps : List MemPlace) (hl : cs.length = 8) (h : DataW.trod enc Try.prog w base (fun _ => true) true fuel 48 cs = some (d, ps)) (hb : Rows.uptoBulk d ≤ 1048576) : ∃ x : MeI, MeE Tru w x cs ∧ MeQ x := by
  obtain ⟨parts, rfl, hpl, hf⟩ := fields_of Try.underlying48 h hb
  replace hpl : parts.length = 8 := hpl
  match cs, hl, parts, hpl with
  | [y0, y1, y2, y3, y4, y5, y6, y7], _, [d0, d1, d2, d3, d4, d5, d6, d7], _ =>
    obtain ⟨n0, z0, p0, a0, g0, w0⟩ := hf 0 _ rfl
    simp at a0
    subst a0
    obtain ⟨n1, z1, p1, a1, g1, w1⟩ := hf 1 _ rfl
    simp at a1
    subst a1
    obtain ⟨n2, z2, p2, a2, g2, w2⟩ := hf 2 _ rfl
    simp at a2
    subst a2
    obtain ⟨n3, z3, p3, a3, g3, w3⟩ := hf 3 _ rfl
    simp at a3
    subst a3
    obtain ⟨n4, z4, p4, a4, g4, w4⟩ := hf 4 _ rfl
    simp at a4
    subst a4
    obtain ⟨n5, z5, p5, a5, g5, w5⟩ := hf 5 _ rfl
    simp at a5
    subst a5
    obtain ⟨n6, z6, p6, a6, g6, w6⟩ := hf 6 _ rfl
    simp at a6
    subst a6
    obtain ⟨n7, z7, p7, a7, g7, w7⟩ := hf 7 _ rfl
    simp at a7
    subst a7
    clear hf h hb
    simp [ocint, ocint64, ocstring, ocuint8, ocLstring, ocLuint8, ocLRow, ocLFrame, ocLConst, ocLField, ocLMethod] at g0 g1 g2 g3 g4 g5 g6 g7
    obtain ⟨x0, e0, m0, b0⟩ := DataW.trod_int Try.underlying3 g0
    simp at e0
    subst e0
    obtain ⟨s1, e1, m1, _⟩ := DataW.trod_string Try.underlying9 g1
    obtain ⟨x1, rfl⟩ := tx_any s1
    simp only [Prod.mk.injEq] at m1
    simp at e1
    subst e1
    rw [m1.1] at w1
    obtain ⟨s2, e2, m2, _⟩ := DataW.trod_string Try.underlying9 g2
    obtain ⟨x2, rfl⟩ := tx_any s2
    simp only [Prod.mk.injEq] at m2
    simp at e2
    subst e2
    rw [m2.1] at w2
    obtain ⟨x3, e3, m3, b3⟩ := DataW.trod_int Try.underlying3 g3
    simp at e3
    subst e3
    obtain ⟨x4, e4, m4, b4⟩ := DataW.trod_int Try.underlying3 g4
    simp at e4
    subst e4
    obtain ⟨x5, r5, l5⟩ := open_list (E := fun w x c => ByE w x c) Try.underlying41 ocuint8 (by omega) by_each g5 w5
    obtain ⟨x6, r6, l6⟩ := open_list (E := fun w x c => RwE w x c ∧ RwQ x) Try.underlying45 ocRow (by omega) rw_each g6 w6
    obtain ⟨r6, q6⟩ := r6.part
    obtain ⟨x7, r7, l7⟩ := open_list (E := fun w x c => FrE Tru w x c ∧ FrQ x) Try.underlying46 ocFrame (by omega) fr_each g7 w7
    obtain ⟨r7, q7⟩ := r7.part
    exact ⟨⟨x0, x1, x2, x3, x4, x5, x6, x7⟩, ⟨_, _, _, rfl, r5, r6, r7⟩, bounds_i64 b0, bulk_tx _ w1, bulk_tx _ w2, bounds_i64 b3, bounds_i64 b4, l5, ⟨q6, l6⟩, q7, l7⟩
set_option maxRecDepth 100000 in
theorem cl_each (fuel : Nat) (cs : List Value) (d : DataW H) (ps : List MemPlace) (hl : cs.length = 7) (h : DataW.trod enc Try.prog w base (fun _ => true) true fuel 35 cs = some (d, ps)) (hb : Rows.uptoBulk d ≤ 1048576) : ∃ x : ClI, ClE Tru w x cs ∧ ClQ x := by
  obtain ⟨parts, rfl, hpl, hf⟩ := fields_of Try.underlying35 h hb
  replace hpl : parts.length = 7 := hpl
  match cs, hl, parts, hpl with
  | [y0, y1, y2, y3, y4, y5, y6], _, [d0, d1, d2, d3, d4, d5, d6], _ =>
    obtain ⟨n0, z0, p0, a0, g0, w0⟩ := hf 0 _ rfl
    simp at a0
    subst a0
    obtain ⟨n1, z1, p1, a1, g1, w1⟩ := hf 1 _ rfl
    simp at a1
    subst a1
    obtain ⟨n2, z2, p2, a2, g2, w2⟩ := hf 2 _ rfl
    simp at a2
    subst a2
    obtain ⟨n3, z3, p3, a3, g3, w3⟩ := hf 3 _ rfl
    simp at a3
    subst a3
    obtain ⟨n4, z4, p4, a4, g4, w4⟩ := hf 4 _ rfl
    simp at a4
    subst a4
    obtain ⟨n5, z5, p5, a5, g5, w5⟩ := hf 5 _ rfl
    simp at a5
    subst a5
    obtain ⟨n6, z6, p6, a6, g6, w6⟩ := hf 6 _ rfl
    simp at a6
    subst a6
    clear hf h hb
    simp [ocint, ocint64, ocstring, ocuint8, ocLstring, ocLuint8, ocLRow, ocLFrame, ocLConst, ocLField, ocLMethod] at g0 g1 g2 g3 g4 g5 g6
    obtain ⟨x0, e0, m0, b0⟩ := DataW.trod_int Try.underlying3 g0
    simp at e0
    subst e0
    obtain ⟨s1, e1, m1, _⟩ := DataW.trod_string Try.underlying9 g1
    obtain ⟨x1, rfl⟩ := tx_any s1
    simp only [Prod.mk.injEq] at m1
    simp at e1
    subst e1
    rw [m1.1] at w1
    obtain ⟨s2, e2, m2, _⟩ := DataW.trod_string Try.underlying9 g2
    obtain ⟨x2, rfl⟩ := tx_any s2
    simp only [Prod.mk.injEq] at m2
    simp at e2
    subst e2
    rw [m2.1] at w2
    obtain ⟨x3, r3, l3⟩ := open_list (E := fun w x c => StE w x c ∧ T20 x) Try.underlying29 ocstring (by omega) st_each g3 w3
    obtain ⟨r3, q3⟩ := r3.part
    obtain ⟨x4, r4, l4⟩ := open_list (E := fun w x c => CoE w x c ∧ CoQ x) Try.underlying31 ocConst (by omega) co_each g4 w4
    obtain ⟨r4, q4⟩ := r4.part
    obtain ⟨x5, r5, l5⟩ := open_list (E := fun w x c => FlE w x c ∧ FlQ x) Try.underlying32 ocField (by omega) fl_each g5 w5
    obtain ⟨r5, q5⟩ := r5.part
    obtain ⟨x6, r6, l6⟩ := open_list (E := fun w x c => MeE Tru w x c ∧ MeQ x) Try.underlying33 ocMethod (by omega) me_each g6 w6
    obtain ⟨r6, q6⟩ := r6.part
    exact ⟨⟨x0, x1, x2, x3, x4, x5, x6⟩, ⟨_, _, _, _, rfl, r3, r4, r5, r6⟩, bounds_i64 b0, bulk_tx _ w1, bulk_tx _ w2, ⟨q3, l3⟩, ⟨q4, l4⟩, ⟨q5, l5⟩, q6, l6⟩
theorem open_classes {fuel : Nat} {v : Value} {d : DataW H} {ps : List MemPlace} (h : DataW.trod enc Try.prog w base (fun _ => true) true fuel 22 [v] = some (d, ps)) (hb : Rows.uptoBulk d ≤ 1048576) : ∃ l : List ClI, RdX Tru 7 (ClE Tru) w v l ∧ (∀ c ∈ l, ClQ c) ∧ l.length ≤ 1048576 := by
  obtain ⟨l, h1, h2⟩ := open_list (E := fun w x c => ClE Tru w x c ∧ ClQ x) Try.underlying22 ocClass (by omega) cl_each h hb
  exact ⟨l, h1.part.1, h1.part.2, h2⟩
end
end Go.Proofs.Ytkphpihggbbpkaa
