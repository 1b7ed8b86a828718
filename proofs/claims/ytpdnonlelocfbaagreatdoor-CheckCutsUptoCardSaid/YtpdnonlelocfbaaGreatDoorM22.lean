/- Texts of this claim, joined: KinOpen, KinShort, ChkUse, ChkHold0, ChkHold, ChkLight. -/
import Derived.Test.YtpdnonlelocfbaaGreatDoorM2
import Derived.Test.YtpdnonlelocfbaaGreatDoorRows
import Derived.ChangeSlices
import Derived.OpenShut
import Derived.WideShapes
import Derived.SizedLaws
import Derived.RowKit
import Derived.Deep.Slices
import Derived.Test.YtpdnonlelocfbaaGreatDoorM15
import Derived.Test.YtpdnonlelocfbaaGreatDoorJChkMeth
import Derived.Test.YtpdnonlelocfbaaGreatDoorM21
import Derived.Test.YtpdnonlelocfbaaGreatDoorM16
import Derived.BigQuiet
import Derived.Deep.MidRow
/- Arguments that are classes, lists of them and the like, opened: what memory holds of them, under the second form's bound. -/
namespace Go.Proofs.YtpdnonlelocfbaaGreatDoor
open Go.RowKit Go Go.ChangeShapes Go.WideShapes
set_option linter.unusedVariables false
set_option linter.unusedSimpArgs false

def I64 (n : Int) : Prop := -9223372036854775808 ≤ n ∧ n ≤ 9223372036854775807
def T20 (t : Bs) : Prop := t.length ≤ 1048576
def Tru (_ : Nat) : Prop := True
theorem one_bulk {H : Type} (d : DataW H) : 1 ≤ Rows.uptoBulk d := by
  cases d with
  | lit l => cases l <;> simp [Rows.uptoBulk]
  | _ => simp [Rows.uptoBulk]
theorem bulk_mem {H : Type} : ∀ {l : List (DataW H)} {d : DataW H}, d ∈ l → Rows.uptoBulk d ≤ Rows.uptoBulkAll l
  | [], _, h => by simp at h
  | x :: l, d, h => by
    simp only [Rows.uptoBulkAll]
    rcases List.mem_cons.1 h with rfl | h
    · omega
    · have := bulk_mem h
      omega
theorem bulk_len {H : Type} : ∀ l : List (DataW H), l.length ≤ Rows.uptoBulkAll l
  | [] => by simp [Rows.uptoBulkAll]
  | x :: l => by
    have h1 := bulk_len l
    have h2 := one_bulk x
    simp only [Rows.uptoBulkAll, List.length_cons]
    omega
theorem bulk_tx {H : Type} (t : Bs) (h : Rows.uptoBulk (DataW.lit (.string (tx t).data.toList) : DataW H) ≤ 1048576) : T20 t := by
  simp [Rows.uptoBulk, tx] at h
  unfold T20
  omega
theorem tx_any (s : ByteArray) : ∃ t : Bs, s = tx t := ⟨s.data.toList, by cases s; simp [tx]⟩
section
variable {P : Program} {H : Type} {enc : TypeId × Value → H} {w : World} {base fuel : Nat}
theorem fields_of {t : TypeId} {fs : Array Field} {cs : List Value} {d : DataW H} {ps : List MemPlace} (ht : P.underlying t = some (.struct fs)) (h : DataW.trod enc P w base (fun _ => true) true fuel t cs = some (d, ps)) (hb : Rows.uptoBulk d ≤ 1048576) :
    ∃ parts, d = .agg parts ∧ parts.length = fs.size ∧ ∀ (i : Nat) (f : Field), fs[i]? = some f → ∃ n d' ps', parts[i]? = some d' ∧ DataW.trod enc P w base (fun _ => true) true n f.type ((cs.drop f.offset).take (P.cellsOf f.type)) = some (d', ps') ∧ Rows.uptoBulk d' ≤ 1048576 := by
  obtain ⟨xs, n, _, hx, _, hl, hfs⟩ := DataW.trod_struct ht h
  simp only [Prod.mk.injEq] at hx
  refine ⟨xs.map (·.1), hx.1, by rw [List.length_map, hl], fun i f hf => ?_⟩
  have h1 := hfs i f hf
  have hi : i < xs.length := by
    rw [hl]
    exact (Array.getElem?_eq_some_iff.1 hf).1
  rw [List.getElem?_eq_getElem hi] at h1
  have hp : (xs.map (·.1))[i]? = some (xs[i]).1 := by rw [List.getElem?_map, List.getElem?_eq_getElem hi]; rfl
  refine ⟨n, (xs[i]).1, (xs[i]).2, hp, h1, ?_⟩
  have := bulk_mem (List.mem_of_getElem? hp)
  rw [hx.1] at hb
  simp only [Rows.uptoBulk] at hb
  omega
theorem open_list {α : Type} [Inhabited α] {E : World → α → List Value → Prop} {t e : TypeId} {k : Nat} {v : Value} {d : DataW H} {ps : List MemPlace} (ht : P.underlying t = some (.slice e)) (ce : P.cellsOf e = k) (hk : 0 < k)
    (each : ∀ fuel cs d ps, cs.length = k → DataW.trod enc P w base (fun _ => true) true fuel e cs = some (d, ps) → Rows.uptoBulk d ≤ 1048576 → ∃ x : α, E w x cs)
    (h : DataW.trod enc P w base (fun _ => true) true fuel t [v] = some (d, ps)) (hb : Rows.uptoBulk d ≤ 1048576) : ∃ l : List α, RdX Tru k E w v l ∧ l.length ≤ 1048576 := by
  rcases Go.Deep.open_slice ht h with ⟨hcs, hx⟩ | ⟨a, len, cap, m, n, D, Pl, hcs, _, hl, hm, hmm, hx, hel⟩
  · simp at hcs
    subst hcs
    exact ⟨[], rdX_nil _ _ _ _ _ _ (fun _ => rfl), by simp⟩
  · simp at hcs
    subst hcs
    simp only [if_true] at hmm
    simp only [Prod.mk.injEq] at hx
    have hd := hx.1
    subst hd
    have hb' : Rows.uptoBulkAll ((List.range len).map D) < 1048576 := by
      simp only [Rows.uptoBulk] at hb
      omega
    have hlen : len ≤ 1048576 := by
      have := bulk_len ((List.range len).map D)
      rw [List.length_map, List.length_range] at this
      omega
    have got : ∀ i, i < len → ∃ x : α, ∃ cs', E w x cs' ∧ w.cells? base (a.add (i * k)) k = some cs' := by
      intro i hi
      obtain ⟨cs', h1, h2⟩ := hel i (by omega)
      rw [ce] at h1
      obtain ⟨_, hcl, _⟩ := World.cells?_some h1
      have hbi := bulk_mem (l := (List.range len).map D) (d := D i) (List.mem_map.2 ⟨i, List.mem_range.2 hi, rfl⟩)
      obtain ⟨x, hx'⟩ := each n cs' (D i) (Pl i) hcl h2 (by omega)
      exact ⟨x, cs', hx', h1⟩
    obtain ⟨f, hf⟩ := Go.Deep.choose_lt got
    have hfl : ((List.range len).map f).length = len := by simp
    refine ⟨(List.range len).map f, ⟨some a, cap, by rw [hfl], fun e => (by cases e), by rw [hfl]; omega, fun i x hi => ?_⟩, by rw [hfl]; exact hlen⟩
    have hil : i < len := by
      have := (List.getElem?_eq_some_iff.1 hi).1
      omega
    rw [List.getElem?_map, List.getElem?_range hil] at hi
    simp only [Option.map_some, Option.some.injEq] at hi
    subst hi
    obtain ⟨cs', hE, hc⟩ := hf i hil
    obtain ⟨_, hcl, hcell⟩ := World.cells?_some hc
    obtain ⟨b, o, sp⟩ := a
    have hs : sp = none := by
      obtain ⟨cs0, _, hc0⟩ := hf 0 (by omega)
      obtain ⟨_, hl0, hcell0⟩ := World.cells?_some hc0
      have h0 := hcell0 0 hk
      rw [List.getElem?_eq_getElem (by omega)] at h0
      have := World.cell?_spot h0
      simpa [Addr.add] using this
    subst hs
    refine ⟨b, o, cs', rfl, trivial, hE, fun j u hj => ?_⟩
    have hjk : j < k := by
      have := (List.getElem?_eq_some_iff.1 hj).1
      omega
    have hc' := hcell j hjk
    rw [Go.Deep.add_add, add_plain, ← Nat.add_assoc] at hc'
    exact hc'.trans hj
end
/-- What holds of each thing of the list besides. -/
theorem RdX.part {α : Type} {P : Nat → Prop} {k : Nat} {E : World → α → List Value → Prop} {Q : α → Prop} {w : World} {v : Value} {l : List α} (h : RdX P k (fun w x c => E w x c ∧ Q x) w v l) : RdX P k E w v l ∧ ∀ x ∈ l, Q x := by
  obtain ⟨A, cap, h1, h0, h2, h3⟩ := h
  refine ⟨⟨A, cap, h1, h0, h2, fun i a hi => ?_⟩, fun x hx => ?_⟩
  · obtain ⟨g, o, c, h4, hp, h5, h6⟩ := h3 i a hi
    exact ⟨g, o, c, h4, hp, h5.1, h6⟩
  · obtain ⟨i, hi, rfl⟩ := List.getElem_of_mem hx
    obtain ⟨g, o, c, h4, hp, h5, h6⟩ := h3 i _ (List.getElem?_eq_getElem hi)
    exact h5.2
def CoQ (x : CoI) : Prop := I64 x.kind ∧ I64 x.num ∧ T20 x.text ∧ T20 x.name ∧ T20 x.desc
def FlQ (x : FlI) : Prop := I64 x.flags ∧ T20 x.name ∧ T20 x.desc
def RwQ (x : RwI) : Prop := I64 x.fr ∧ I64 x.too ∧ I64 x.at_ ∧ T20 x.cls
def FrQ (x : FrI) : Prop := I64 x.pc ∧ ((∀ t ∈ x.locals, T20 t) ∧ x.locals.length ≤ 1048576) ∧ (∀ t ∈ x.stack, T20 t) ∧ x.stack.length ≤ 1048576
def MeQ (m : MeI) : Prop := I64 m.flags ∧ T20 m.name ∧ T20 m.desc ∧ I64 m.stack ∧ I64 m.locals ∧ m.code.length ≤ 1048576 ∧ ((∀ x ∈ m.rows, RwQ x) ∧ m.rows.length ≤ 1048576) ∧ (∀ x ∈ m.frames, FrQ x) ∧ m.frames.length ≤ 1048576
def ClQ (c : ClI) : Prop := I64 c.flags ∧ T20 c.name ∧ T20 c.super ∧ ((∀ t ∈ c.ifaces, T20 t) ∧ c.ifaces.length ≤ 1048576) ∧ ((∀ x ∈ c.pool, CoQ x) ∧ c.pool.length ≤ 1048576) ∧ ((∀ x ∈ c.fields, FlQ x) ∧ c.fields.length ≤ 1048576) ∧ (∀ x ∈ c.methods, MeQ x) ∧ c.methods.length ≤ 1048576
instance : Inhabited CoI := ⟨⟨0, 0, [], [], []⟩⟩
instance : Inhabited FlI := ⟨⟨0, [], []⟩⟩
instance : Inhabited RwI := ⟨⟨0, 0, 0, []⟩⟩
instance : Inhabited FrI := ⟨⟨0, [], []⟩⟩
instance : Inhabited MeI := ⟨⟨0, [], [], 0, 0, [], [], []⟩⟩
instance : Inhabited ClI := ⟨⟨0, [], [], [], [], [], []⟩⟩
theorem ocint : Tryz.prog.cellsOf 3 = 1 := by kernel_rfl
theorem ocint64 : Tryz.prog.cellsOf 2 = 1 := by kernel_rfl
theorem ocstring : Tryz.prog.cellsOf 9 = 1 := by kernel_rfl
theorem ocuint8 : Tryz.prog.cellsOf 5 = 1 := by kernel_rfl
theorem ocLstring : Tryz.prog.cellsOf 34 = 1 := by kernel_rfl
theorem ocLuint8 : Tryz.prog.cellsOf 23 = 1 := by kernel_rfl
theorem ocLRow : Tryz.prog.cellsOf 24 = 1 := by kernel_rfl
theorem ocLFrame : Tryz.prog.cellsOf 25 = 1 := by kernel_rfl
theorem ocLConst : Tryz.prog.cellsOf 35 = 1 := by kernel_rfl
theorem ocLField : Tryz.prog.cellsOf 36 = 1 := by kernel_rfl
theorem ocLMethod : Tryz.prog.cellsOf 37 = 1 := by kernel_rfl
theorem ocConst : Tryz.prog.cellsOf 213 = 5 := by kernel_rfl
theorem ocField : Tryz.prog.cellsOf 91 = 3 := by kernel_rfl
theorem ocRow : Tryz.prog.cellsOf 184 = 4 := by kernel_rfl
theorem ocFrame : Tryz.prog.cellsOf 94 = 3 := by kernel_rfl
theorem ocMethod : Tryz.prog.cellsOf 27 = 8 := by kernel_rfl
theorem ocClass : Tryz.prog.cellsOf 39 = 7 := by kernel_rfl
section
variable {H : Type} {enc : TypeId × Value → H} {w : World} {base : Nat}
theorem st_each (fuel : Nat) (cs : List Value) (d : DataW H) (ps : List MemPlace) (hl : cs.length = 1) (h : DataW.trod enc Tryz.prog w base (fun _ => true) true fuel 9 cs = some (d, ps)) (hb : Rows.uptoBulk d ≤ 1048576) : ∃ x : Bs, StE w x cs ∧ T20 x := by
  obtain ⟨s, rfl, hx, _⟩ := DataW.trod_string Tryz.underlying9 h
  obtain ⟨t, rfl⟩ := tx_any s
  simp at hx
  refine ⟨t, rfl, ?_⟩
  rw [hx.1] at hb
  exact bulk_tx t hb
theorem by_each (fuel : Nat) (cs : List Value) (d : DataW H) (ps : List MemPlace) (hl : cs.length = 1) (h : DataW.trod enc Tryz.prog w base (fun _ => true) true fuel 5 cs = some (d, ps)) (hb : Rows.uptoBulk d ≤ 1048576) : ∃ x : UInt8, ByE w x cs := by
  obtain ⟨n, rfl, hx, hwf⟩ := DataW.trod_int Tryz.underlying5 h
  have hb := bounds_u8 hwf
  refine ⟨UInt8.ofNat n.toNat, ?_⟩
  have h1 : (UInt8.ofNat n.toNat).toNat = n.toNat := by
    rw [UInt8.toNat_ofNat']
    exact Nat.mod_eq_of_lt (by omega)
  show [Value.int .u8 n] = [.int .u8 ((UInt8.ofNat n.toNat).toNat : Int)]
  rw [h1]
  congr 2
  omega
set_option maxRecDepth 100000 in
theorem co_each (fuel : Nat) (cs : List Value) (d : DataW H) (ps : List MemPlace) (hl : cs.length = 5) (h : DataW.trod enc Tryz.prog w base (fun _ => true) true fuel 213 cs = some (d, ps)) (hb : Rows.uptoBulk d ≤ 1048576) : ∃ x : CoI, CoE w x cs ∧ CoQ x := by
  obtain ⟨parts, rfl, hpl, hf⟩ := fields_of Tryz.underlying213 h hb
  replace hpl : parts.length = 5 := hpl
  match cs, hl, parts, hpl with
  | [y0, y1, y2, y3, y4], _, [d0, d1, d2, d3, d4], _ =>
    obtain ⟨n0, z0, p0, a0, g0, w0⟩ := hf 0 _ rfl
    simp at a0
    subst a0
    obtain ⟨n1, z1, p1, a1, g1, w1⟩ := hf 1 _ rfl
    simp at a1
    subst a1
    obtain ⟨n2, z2, p2, a2, g2, w2⟩ := hf 2 _ rfl
    simp at a2
    subst a2
    obtain ⟨n3, z3, p3, a3, g3, w3⟩ := hf 3 _ rfl
    simp at a3
    subst a3
    obtain ⟨n4, z4, p4, a4, g4, w4⟩ := hf 4 _ rfl
    simp at a4
    subst a4
    clear hf h hb
    simp [ocint, ocint64, ocstring, ocuint8, ocLstring, ocLuint8, ocLRow, ocLFrame, ocLConst, ocLField, ocLMethod] at g0 g1 g2 g3 g4
    obtain ⟨x0, e0, m0, b0⟩ := DataW.trod_int Tryz.underlying3 g0
    simp at e0
    subst e0
    obtain ⟨x1, e1, m1, b1⟩ := DataW.trod_int Tryz.underlying2 g1
    simp at e1
    subst e1
    obtain ⟨s2, e2, m2, _⟩ := DataW.trod_string Tryz.underlying9 g2
    obtain ⟨x2, rfl⟩ := tx_any s2
    simp only [Prod.mk.injEq] at m2
    simp at e2
    subst e2
    rw [m2.1] at w2
    obtain ⟨s3, e3, m3, _⟩ := DataW.trod_string Tryz.underlying9 g3
    obtain ⟨x3, rfl⟩ := tx_any s3
    simp only [Prod.mk.injEq] at m3
    simp at e3
    subst e3
    rw [m3.1] at w3
    obtain ⟨s4, e4, m4, _⟩ := DataW.trod_string Tryz.underlying9 g4
    obtain ⟨x4, rfl⟩ := tx_any s4
    simp only [Prod.mk.injEq] at m4
    simp at e4
    subst e4
    rw [m4.1] at w4
    exact ⟨⟨x0, x1, x2, x3, x4⟩, rfl, bounds_i64 b0, bounds_i64 b1, bulk_tx _ w2, bulk_tx _ w3, bulk_tx _ w4⟩
set_option maxRecDepth 100000 in
theorem fl_each (fuel : Nat) (cs : List Value) (d : DataW H) (ps : List MemPlace) (hl : cs.length = 3) (h : DataW.trod enc Tryz.prog w base (fun _ => true) true fuel 91 cs = some (d, ps)) (hb : Rows.uptoBulk d ≤ 1048576) : ∃ x : FlI, FlE w x cs ∧ FlQ x := by
  obtain ⟨parts, rfl, hpl, hf⟩ := fields_of Tryz.underlying91 h hb
  replace hpl : parts.length = 3 := hpl
  match cs, hl, parts, hpl with
  | [y0, y1, y2], _, [d0, d1, d2], _ =>
    obtain ⟨n0, z0, p0, a0, g0, w0⟩ := hf 0 _ rfl
    simp at a0
    subst a0
    obtain ⟨n1, z1, p1, a1, g1, w1⟩ := hf 1 _ rfl
    simp at a1
    subst a1
    obtain ⟨n2, z2, p2, a2, g2, w2⟩ := hf 2 _ rfl
    simp at a2
    subst a2
    clear hf h hb
    simp [ocint, ocint64, ocstring, ocuint8, ocLstring, ocLuint8, ocLRow, ocLFrame, ocLConst, ocLField, ocLMethod] at g0 g1 g2
    obtain ⟨x0, e0, m0, b0⟩ := DataW.trod_int Tryz.underlying3 g0
    simp at e0
    subst e0
    obtain ⟨s1, e1, m1, _⟩ := DataW.trod_string Tryz.underlying9 g1
    obtain ⟨x1, rfl⟩ := tx_any s1
    simp only [Prod.mk.injEq] at m1
    simp at e1
    subst e1
    rw [m1.1] at w1
    obtain ⟨s2, e2, m2, _⟩ := DataW.trod_string Tryz.underlying9 g2
    obtain ⟨x2, rfl⟩ := tx_any s2
    simp only [Prod.mk.injEq] at m2
    simp at e2
    subst e2
    rw [m2.1] at w2
    exact ⟨⟨x0, x1, x2⟩, rfl, bounds_i64 b0, bulk_tx _ w1, bulk_tx _ w2⟩
set_option maxRecDepth 100000 in
theorem rw_each (fuel : Nat) (cs : List Value) (d : DataW H) (ps : List MemPlace) (hl : cs.length = 4) (h : DataW.trod enc Tryz.prog w base (fun _ => true) true fuel 184 cs = some (d, ps)) (hb : Rows.uptoBulk d ≤ 1048576) : ∃ x : RwI, RwE w x cs ∧ RwQ x := by
  obtain ⟨parts, rfl, hpl, hf⟩ := fields_of Tryz.underlying184 h hb
  replace hpl : parts.length = 4 := hpl
  match cs, hl, parts, hpl with
  | [y0, y1, y2, y3], _, [d0, d1, d2, d3], _ =>
    obtain ⟨n0, z0, p0, a0, g0, w0⟩ := hf 0 _ rfl
    simp at a0
    subst a0
    obtain ⟨n1, z1, p1, a1, g1, w1⟩ := hf 1 _ rfl
    simp at a1
    subst a1
    obtain ⟨n2, z2, p2, a2, g2, w2⟩ := hf 2 _ rfl
    simp at a2
    subst a2
    obtain ⟨n3, z3, p3, a3, g3, w3⟩ := hf 3 _ rfl
    simp at a3
    subst a3
    clear hf h hb
    simp [ocint, ocint64, ocstring, ocuint8, ocLstring, ocLuint8, ocLRow, ocLFrame, ocLConst, ocLField, ocLMethod] at g0 g1 g2 g3
    obtain ⟨x0, e0, m0, b0⟩ := DataW.trod_int Tryz.underlying3 g0
    simp at e0
    subst e0
    obtain ⟨x1, e1, m1, b1⟩ := DataW.trod_int Tryz.underlying3 g1
    simp at e1
    subst e1
    obtain ⟨x2, e2, m2, b2⟩ := DataW.trod_int Tryz.underlying3 g2
    simp at e2
    subst e2
    obtain ⟨s3, e3, m3, _⟩ := DataW.trod_string Tryz.underlying9 g3
    obtain ⟨x3, rfl⟩ := tx_any s3
    simp only [Prod.mk.injEq] at m3
    simp at e3
    subst e3
    rw [m3.1] at w3
    exact ⟨⟨x0, x1, x2, x3⟩, rfl, bounds_i64 b0, bounds_i64 b1, bounds_i64 b2, bulk_tx _ w3⟩
set_option maxRecDepth 100000 in
theorem fr_each (fuel : Nat) (cs : List Value) (d : DataW H) (ps : List MemPlace) (hl : cs.length = 3) (h : DataW.trod enc Tryz.prog w base (fun _ => true) true fuel 94 cs = some (d, ps)) (hb : Rows.uptoBulk d ≤ 1048576) : ∃ x : FrI, FrE Tru w x cs ∧ FrQ x := by
  obtain ⟨parts, rfl, hpl, hf⟩ := fields_of Tryz.underlying94 h hb
  replace hpl : parts.length = 3 := hpl
  match cs, hl, parts, hpl with
  | [y0, y1, y2], _, [d0, d1, d2], _ =>
    obtain ⟨n0, z0, p0, a0, g0, w0⟩ := hf 0 _ rfl
    simp at a0
    subst a0
    obtain ⟨n1, z1, p1, a1, g1, w1⟩ := hf 1 _ rfl
    simp at a1
    subst a1
    obtain ⟨n2, z2, p2, a2, g2, w2⟩ := hf 2 _ rfl
    simp at a2
    subst a2
    clear hf h hb
    simp [ocint, ocint64, ocstring, ocuint8, ocLstring, ocLuint8, ocLRow, ocLFrame, ocLConst, ocLField, ocLMethod] at g0 g1 g2
    obtain ⟨x0, e0, m0, b0⟩ := DataW.trod_int Tryz.underlying3 g0
    simp at e0
    subst e0
    obtain ⟨x1, r1, l1⟩ := open_list (E := fun w x c => StE w x c ∧ T20 x) Tryz.underlying34 ocstring (by omega) st_each g1 w1
    obtain ⟨r1, q1⟩ := r1.part
    obtain ⟨x2, r2, l2⟩ := open_list (E := fun w x c => StE w x c ∧ T20 x) Tryz.underlying34 ocstring (by omega) st_each g2 w2
    obtain ⟨r2, q2⟩ := r2.part
    exact ⟨⟨x0, x1, x2⟩, ⟨_, _, rfl, r1, r2⟩, bounds_i64 b0, ⟨q1, l1⟩, q2, l2⟩
set_option maxRecDepth 100000 in
theorem me_each (fuel : Nat) (cs : List Value) (d : DataW H) (ps : List MemPlace) (hl : cs.length = 8) (h : DataW.trod enc Tryz.prog w base (fun _ => true) true fuel 27 cs = some (d, ps)) (hb : Rows.uptoBulk d ≤ 1048576) : ∃ x : MeI, MeE Tru w x cs ∧ MeQ x := by
  obtain ⟨parts, rfl, hpl, hf⟩ := fields_of Tryz.underlying27 h hb
  replace hpl : parts.length = 8 := hpl
  match cs, hl, parts, hpl with
  | [y0, y1, y2, y3, y4, y5, y6, y7], _, [d0, d1, d2, d3, d4, d5, d6, d7], _ =>
    obtain ⟨n0, z0, p0, a0, g0, w0⟩ := hf 0 _ rfl
    simp at a0
    subst a0
    obtain ⟨n1, z1, p1, a1, g1, w1⟩ := hf 1 _ rfl
    simp at a1
    subst a1
    obtain ⟨n2, z2, p2, a2, g2, w2⟩ := hf 2 _ rfl
    simp at a2
    subst a2
    obtain ⟨n3, z3, p3, a3, g3, w3⟩ := hf 3 _ rfl
    simp at a3
    subst a3
    obtain ⟨n4, z4, p4, a4, g4, w4⟩ := hf 4 _ rfl
    simp at a4
    subst a4
    obtain ⟨n5, z5, p5, a5, g5, w5⟩ := hf 5 _ rfl
    simp at a5
    subst a5
    obtain ⟨n6, z6, p6, a6, g6, w6⟩ := hf 6 _ rfl
    simp at a6
    subst a6
    obtain ⟨n7, z7, p7, a7, g7, w7⟩ := hf 7 _ rfl
    simp at a7
    subst a7
    clear hf h hb
    simp [ocint, ocint64, ocstring, ocuint8, ocLstring, ocLuint8, ocLRow, ocLFrame, ocLConst, ocLField, ocLMethod] at g0 g1 g2 g3 g4 g5 g6 g7
    obtain ⟨x0, e0, m0, b0⟩ := DataW.trod_int Tryz.underlying3 g0
    simp at e0
    subst e0
    obtain ⟨s1, e1, m1, _⟩ := DataW.trod_string Tryz.underlying9 g1
    obtain ⟨x1, rfl⟩ := tx_any s1
    simp only [Prod.mk.injEq] at m1
    simp at e1
    subst e1
    rw [m1.1] at w1
    obtain ⟨s2, e2, m2, _⟩ := DataW.trod_string Tryz.underlying9 g2
    obtain ⟨x2, rfl⟩ := tx_any s2
    simp only [Prod.mk.injEq] at m2
    simp at e2
    subst e2
    rw [m2.1] at w2
    obtain ⟨x3, e3, m3, b3⟩ := DataW.trod_int Tryz.underlying3 g3
    simp at e3
    subst e3
    obtain ⟨x4, e4, m4, b4⟩ := DataW.trod_int Tryz.underlying3 g4
    simp at e4
    subst e4
    obtain ⟨x5, r5, l5⟩ := open_list (E := fun w x c => ByE w x c) Tryz.underlying23 ocuint8 (by omega) by_each g5 w5
    obtain ⟨x6, r6, l6⟩ := open_list (E := fun w x c => RwE w x c ∧ RwQ x) Tryz.underlying24 ocRow (by omega) rw_each g6 w6
    obtain ⟨r6, q6⟩ := r6.part
    obtain ⟨x7, r7, l7⟩ := open_list (E := fun w x c => FrE Tru w x c ∧ FrQ x) Tryz.underlying25 ocFrame (by omega) fr_each g7 w7
    obtain ⟨r7, q7⟩ := r7.part
    exact ⟨⟨x0, x1, x2, x3, x4, x5, x6, x7⟩, ⟨_, _, _, rfl, r5, r6, r7⟩, bounds_i64 b0, bulk_tx _ w1, bulk_tx _ w2, bounds_i64 b3, bounds_i64 b4, l5, ⟨q6, l6⟩, q7, l7⟩
set_option maxRecDepth 100000 in
theorem cl_each (fuel : Nat) (cs : List Value) (d : DataW H) (ps : List MemPlace) (hl : cs.length = 7) (h : DataW.trod enc Tryz.prog w base (fun _ => true) true fuel 39 cs = some (d, ps)) (hb : Rows.uptoBulk d ≤ 1048576) : ∃ x : ClI, ClE Tru w x cs ∧ ClQ x := by
  obtain ⟨parts, rfl, hpl, hf⟩ := fields_of Tryz.underlying39 h hb
  replace hpl : parts.length = 7 := hpl
  match cs, hl, parts, hpl with
  | [y0, y1, y2, y3, y4, y5, y6], _, [d0, d1, d2, d3, d4, d5, d6], _ =>
    obtain ⟨n0, z0, p0, a0, g0, w0⟩ := hf 0 _ rfl
    simp at a0
    subst a0
    obtain ⟨n1, z1, p1, a1, g1, w1⟩ := hf 1 _ rfl
    simp at a1
    subst a1
    obtain ⟨n2, z2, p2, a2, g2, w2⟩ := hf 2 _ rfl
    simp at a2
    subst a2
    obtain ⟨n3, z3, p3, a3, g3, w3⟩ := hf 3 _ rfl
    simp at a3
    subst a3
    obtain ⟨n4, z4, p4, a4, g4, w4⟩ := hf 4 _ rfl
    simp at a4
    subst a4
    obtain ⟨n5, z5, p5, a5, g5, w5⟩ := hf 5 _ rfl
    simp at a5
    subst a5
    obtain ⟨n6, z6, p6, a6, g6, w6⟩ := hf 6 _ rfl
    simp at a6
    subst a6
    clear hf h hb
    simp [ocint, ocint64, ocstring, ocuint8, ocLstring, ocLuint8, ocLRow, ocLFrame, ocLConst, ocLField, ocLMethod] at g0 g1 g2 g3 g4 g5 g6
    obtain ⟨x0, e0, m0, b0⟩ := DataW.trod_int Tryz.underlying3 g0
    simp at e0
    subst e0
    obtain ⟨s1, e1, m1, _⟩ := DataW.trod_string Tryz.underlying9 g1
    obtain ⟨x1, rfl⟩ := tx_any s1
    simp only [Prod.mk.injEq] at m1
    simp at e1
    subst e1
    rw [m1.1] at w1
    obtain ⟨s2, e2, m2, _⟩ := DataW.trod_string Tryz.underlying9 g2
    obtain ⟨x2, rfl⟩ := tx_any s2
    simp only [Prod.mk.injEq] at m2
    simp at e2
    subst e2
    rw [m2.1] at w2
    obtain ⟨x3, r3, l3⟩ := open_list (E := fun w x c => StE w x c ∧ T20 x) Tryz.underlying34 ocstring (by omega) st_each g3 w3
    obtain ⟨r3, q3⟩ := r3.part
    obtain ⟨x4, r4, l4⟩ := open_list (E := fun w x c => CoE w x c ∧ CoQ x) Tryz.underlying35 ocConst (by omega) co_each g4 w4
    obtain ⟨r4, q4⟩ := r4.part
    obtain ⟨x5, r5, l5⟩ := open_list (E := fun w x c => FlE w x c ∧ FlQ x) Tryz.underlying36 ocField (by omega) fl_each g5 w5
    obtain ⟨r5, q5⟩ := r5.part
    obtain ⟨x6, r6, l6⟩ := open_list (E := fun w x c => MeE Tru w x c ∧ MeQ x) Tryz.underlying37 ocMethod (by omega) me_each g6 w6
    obtain ⟨r6, q6⟩ := r6.part
    exact ⟨⟨x0, x1, x2, x3, x4, x5, x6⟩, ⟨_, _, _, _, rfl, r3, r4, r5, r6⟩, bounds_i64 b0, bulk_tx _ w1, bulk_tx _ w2, ⟨q3, l3⟩, ⟨q4, l4⟩, ⟨q5, l5⟩, q6, l6⟩
theorem open_classes {fuel : Nat} {v : Value} {d : DataW H} {ps : List MemPlace} (h : DataW.trod enc Tryz.prog w base (fun _ => true) true fuel 22 [v] = some (d, ps)) (hb : Rows.uptoBulk d ≤ 1048576) : ∃ l : List ClI, RdX Tru 7 (ClE Tru) w v l ∧ (∀ c ∈ l, ClQ c) ∧ l.length ≤ 1048576 := by
  obtain ⟨l, h1, h2⟩ := open_list (E := fun w x c => ClE Tru w x c ∧ ClQ x) Tryz.underlying22 ocClass (by omega) cl_each h hb
  exact ⟨l, h1.part.1, h1.part.2, h2⟩
end
end Go.Proofs.YtpdnonlelocfbaaGreatDoor
/- Classes of an argument have short names. -/
namespace Go.Proofs.YtpdnonlelocfbaaGreatDoor
open Go.RowKit Go
set_option linter.unusedVariables false

theorem short_q {l : List ClI} (h : ∀ c ∈ l, ClQ c) : Short l := by
  intro c hc
  obtain ⟨_, h2, h3, ⟨h4, _⟩, _⟩ := h c hc
  unfold T20 at h2 h3
  refine ⟨by unfold maxLen; omega, by unfold maxLen; omega, fun i hi => ?_⟩
  have := h4 i hi
  unfold T20 at this
  unfold maxLen
  omega
theorem ifaces_q {l : List ClI} (h : ∀ c ∈ l, ClQ c) : ∀ c ∈ ownL ++ l, c.ifaces.length ≤ 1048576 := by
  intro c hc
  rcases List.mem_append.1 hc with hc | hc
  · rw [(own_names c hc).2.2.1]; simp
  · exact (h c hc).2.2.2.1.2
end Go.Proofs.YtpdnonlelocfbaaGreatDoor
/- Package check: Method as the laws call it. -/
namespace Go.Proofs.YtpdnonlelocfbaaGreatDoor
open Go.RowKit Go Go.Maps
set_option linter.unusedVariables false
/-- Check's words for a class and a method of it, in a tree of the classes L. -/
noncomputable def envM (L : List ClI) (X : ClI) (m : MeI) : Chk := envOf L X.pool (ofL X.name) (metD0 m.desc).2 (min m.stack.toNat 20)
/-- What Method answers. -/
noncomputable def metR (L : List ClI) (X : ClI) (m : MeI) : Mt := metC (envM L X m) (decI m.code) m.code.length m.stack m.locals (metER m.desc, (metD0 m.desc).1) (bStat m.flags) m.frames m.rows
/-- The sizes that are wanted. -/
structure MeS (m : MeI) : Prop where
  stack : I6 m.stack
  locals : I6 m.locals
  desc : m.desc.length ≤ 1048576
  rows : ∀ x ∈ m.rows, I6 x.at_ ∧ x.cls.length ≤ 4294967296
  frames : ∀ f ∈ m.frames, I6 f.pc ∧ (∀ t ∈ f.locals, t.length ≤ ML) ∧ ∀ t ∈ f.stack, t.length ≤ ML
theorem meS_q {m : MeI} (h : MeQ m) : MeS m := by
  obtain ⟨_, _, h3, h4, h5, _, ⟨h7, _⟩, h8, _⟩ := h
  refine ⟨h4, h5, h3, fun x hx => ⟨(h7 x hx).2.2.1, ?_⟩, fun f hf => ⟨(h8 f hf).1, fun t ht => ?_, fun t ht => ?_⟩⟩
  · have := (h7 x hx).2.2.2
    unfold T20 at this
    omega
  · have := (h8 f hf).2.1.1 t ht
    unfold T20 at this
    unfold ML
    omega
  · have := (h8 f hf).2.2.1 t ht
    unfold T20 at this
    unfold ML
    omega
/-- What is wanted of the classes of a tree. -/
structure LOK (L : List ClI) : Prop where
  len : L.length ≤ 100
  short : Short L
  circ : ∀ z ∈ names L, ¬ Circ L z
  closed : ∀ s z, s ∈ names L → Rch L s z → z ∈ names L
  fields : ∀ c ∈ L, ∀ f ∈ c.fields, f.desc.length ≤ 4294967296
theorem bts_of {w : World} {A : Option Addr} {cap : Nat} {L : Bs} (h : RdX Tru 1 ByE w (.slice A L.length cap) L) (hc : L.length ≤ cap) (hm : cap ≤ maxLen) : Cd.Bts w (.slice A L.length cap) L := by
  have hlen := h.len
  refine ⟨⟨A, cap, rfl, by omega, fun i a hi => ?_⟩, A, cap, rfl, hc, hm⟩
  obtain ⟨g, o, c, hA, _, hE, hcell⟩ := h.at' hi
  refine ⟨g, o, hA, fun j u hj => hcell j u ?_⟩
  rw [show c = [.int .u8 (a.toNat : Int)] from hE]
  exact hj
theorem method_e {B tb : Nat} {l : List ClI} {w : World} (hT : TreeOK B w tb (ownL ++ l)) (hO : LOK (ownL ++ l)) (hm : l.any misB = false) {X : ClI} {cs : List Value} (hX : ClE Tru w X cs) {m : MeI} {ms : List Value} (hM : MeE Tru w m ms) (hS : MeS m)
    (hcap : ∀ A n cap, ms[5]? = some (.slice A n cap) → n ≤ cap ∧ cap ≤ maxLen) (hn : X.name.length ≤ 1048576) (hp : ∀ c ∈ X.pool, c.text.length ≤ 4294967296 ∧ c.desc.length ≤ 4294967296) (hko : bStat m.flags = false → ∃ c, findC (ownL ++ l) X.name = some c) :
    Calls Tryz.prog 15 #[.pointer (some ⟨tb, 0, none⟩), .agg cs.toArray, .agg ms.toArray] w (MtOut w (metR (ownL ++ l) X m)) := by
  obtain ⟨a4, a5, a6, a7, rfl, r4, r5, r6, r7⟩ := hX
  obtain ⟨b5, b6, b7, rfl, s5, s6, s7⟩ := hM
  obtain ⟨A4, d4, rfl⟩ := r4.shape
  obtain ⟨A5, d5, rfl⟩ := r5.shape
  obtain ⟨A6, d6, rfl⟩ := r6.shape
  obtain ⟨A7, d7, rfl⟩ := r7.shape
  obtain ⟨B5, e5, rfl⟩ := s5.shape
  obtain ⟨B6, e6, rfl⟩ := s6.shape
  obtain ⟨B7, e7, rfl⟩ := s7.shape
  obtain ⟨hc1, hc2⟩ := hcap _ _ _ rfl
  have hown : (ofL X.name).length ≤ ML := by
    unfold ofL ML
    split
    · omega
    · simp; omega
  have hmd := metD0_len m.desc
  have hg : (metD0 m.desc).2.length ≤ ML := by
    have := hmd.2.2
    have := hS.desc
    unfold ML
    omega
  have hE : Env (envM (ownL ++ l) X m) tb w := env_of hT hO.len hO.short hO.circ hO.closed hO.fields hp hown hg (Nat.min_le_right _ _)
  have key := method_c (E := envM (ownL ++ l) X m) (tb := tb) (w := w) (lhid hE) (lhid (env_good hm _ _ _ _)) (k1 := X.flags) (cn := X.name) (k3 := X.super) (A4 := A4) (A5 := A5) (A6 := A6) (A7 := A7) (l4 := X.ifaces.length) (l5 := X.pool.length) (l6 := X.fields.length) (l7 := X.methods.length) (d4 := d4) (d5 := d5) (d6 := d6) (d7 := d7)
    (mf := m.flags) (m1 := m.name) (md := m.desc) (ms := m.stack) (ml := m.locals) (B5 := B5) (B6 := B6) (B7 := B7) (L := m.code) (rows := m.rows) (frames := m.frames) (e5 := e5) (e6 := e6) (e7 := e7)
    (lhid (r5.mono (fun _ _ h => h) (fun _ _ h => h) co_ne)) (lhid (bts_of s5 hc1 hc2)) (lhid (s6.mono (fun _ _ h => h) (fun _ _ h => h) rw_ne)) (lhid (s7.mono (frE_mono fun _ _ h => h) (fun _ _ h => h) fr_ne)) hS.stack hS.locals (by unfold ML; omega) rfl (by have := hS.desc; unfold ML; omega)
    (fun h0 h1 => by show m.stack = ((min m.stack.toNat 20 : Nat) : Int); omega) (fun h => by
      obtain ⟨c, hc⟩ := hko h
      exact known_of (all_named hm) hc) (de := metER m.desc) (dp := (metD0 m.desc).1) (lhid fun w' => metD_x m.desc w' (by have := hS.desc; unfold ML; omega)) hmd.2.1 (lhid fun t ht => by have := hmd.1 t ht; have := hS.desc; unfold ML; omega) hS.frames hS.rows
  exact key
/-- The tree of no classes but the machine's own. -/
def rank0 (s : Bs) : Nat := if s = [79, 98, 106, 101, 99, 116] then 0 else if s = [84, 104, 114, 111, 119, 97, 98, 108, 101] then 1 else if s = [69, 120, 99, 101, 112, 116, 105, 111, 110] then 2 else 3
theorem zero_rank : ∀ s, ∀ n ∈ nxt (ownL ++ []) s, rank0 n < rank0 s := by
  intro s n hn
  have := nxt_in (fun s l => decide (∀ n ∈ l, rank0 n < rank0 s)) (by decide) s n hn
  simpa using this
theorem zero_new : NewE [] 0 := by
  refine .inr ⟨by simp, .inr ⟨rfl, .inr ⟨by decide, .inr ⟨fun c hc => (by cases hc), .inr ⟨fun s _ => no_circ rank0 zero_rank s, rfl⟩⟩⟩⟩⟩
end Go.Proofs.YtpdnonlelocfbaaGreatDoor
/- Package check: the two methods of law 08's holds, in plain words. -/
namespace Go.Proofs.YtpdnonlelocfbaaGreatDoor
open Go.RowKit Go Go.Maps
set_option linter.unusedVariables false
theorem lok_of {l : List ClI} (hx : NewE l 0) (hs : Short l) (hq : ∀ c ∈ l, ∀ f ∈ c.fields, f.desc.length ≤ 4294967296) : LOK (ownL ++ l) := by
  obtain ⟨h1, h2, h3, h4, h5⟩ := newE_zero hx
  refine ⟨by rw [List.length_append, ownL_len]; omega, short_all hs, h5, fun s z hs hr => rch_in (closed_all h2 h4) hs hr, fun c hc f hf => ?_⟩
  rcases List.mem_append.1 hc with hc | hc
  · obtain ⟨c0, hc0, rfl⟩ := List.mem_map.1 hc
    simp only [own0, List.mem_cons, List.not_mem_nil, or_false] at hc0
    rcases hc0 with rfl | rfl | rfl | rfl | rfl | rfl | rfl | rfl | rfl | rfl | rfl | rfl | rfl <;> (unfold withM at hf; cases hf)
  · exact hq c hc f hf
def hX : ClI := ⟨0, [97], [79, 98, 106, 101, 99, 116], [], [], [], []⟩
def hM (c : UInt8) : MeI := ⟨8, [102], [40, 41, 73], 1, 0, [8, c], [], []⟩
theorem hmet : metB [40, 41, 73] = some ([], [73]) := metB_some rfl (by rw [parm_end _ rfl]; rfl) (.inr (by decide))
theorem walk_h1 {E : Chk} (h1 : E.room = 1) (h2 : E.gives = [73]) (h3 : E.kind [73] = 1) (h4 : E.fits [73] [73] = true) : walkC E [] [] [⟨0, 8, 0, false, false⟩, ⟨1, 172, 0, false, true⟩] true ⟨[], [], 0⟩ [] = .ok false [([], []), ([], [[73]])] := by
  simp [walkC, arrive, rowsFit, frm, leave, Cs.doOp, Cs.tell, Cs.push, Cs.refuse, Cs.giveBack, Cs.pop, Cs.take, tInt, tVoid, h1, h2, h3, h4]
theorem walk_h2 {E : Chk} (h1 : E.room = 1) (h2 : E.gives = [73]) (h3 : E.kind [73] = 1) : walkC E [] [] [⟨0, 8, 0, false, false⟩, ⟨1, 177, 0, false, true⟩] true ⟨[], [], 0⟩ [] = .er 62 := by
  simp [walkC, arrive, rowsFit, frm, leave, Cs.doOp, Cs.tell, Cs.push, Cs.refuse, Cs.giveBack, Cs.pop, Cs.take, tInt, tVoid, h1, h2, h3]
theorem dec_h1 : decI [8, 172] = (0, [⟨0, 8, 0, false, false⟩, ⟨1, 172, 0, false, true⟩]) := by rfl
theorem dec_h2 : decI [8, 177] = (0, [⟨0, 8, 0, false, false⟩, ⟨1, 177, 0, false, true⟩]) := by rfl
theorem gives_h (L : List ClI) (c : UInt8) : (envM L hX (hM c)).gives = [73] := by
  show (metD0 [40, 41, 73]).2 = [73]
  unfold metD0
  rw [hmet]
  rfl
theorem fits_h (L : List ClI) (X : ClI) (m : MeI) (t : Bs) : (envM L X m).fits t t = true := by
  have h : FitsP L t t := .inr (.inl rfl)
  simp [envM, envOf, h]
theorem bg_h (l : List ClI) (hm : l.any misB = false) (c : UInt8) : bgE (envM (ownL ++ l) hX (hM c)) 0 1 0 (metER [40, 41, 73], (metD0 [40, 41, 73]).1) true = 0 := by
  have hk := (env_good hm hX.pool (ofL hX.name) (metD0 (hM c).desc).2 (min (hM c).stack.toNat 20)).int
  have hk' : (envM (ownL ++ l) hX (hM c)).known [73] = true := hk
  have e1 : metER [40, 41, 73] = 0 := by unfold metER; rw [hmet]; rfl
  have e2 : (metD0 [40, 41, 73]).1 = [] := by unfold metD0; rw [hmet]; rfl
  unfold bgE
  rw [e1, e2, gives_h, hk']
  simp [firstLoc, tVoid]
theorem met_h1 (l : List ClI) (hm : l.any misB = false) : metR (ownL ++ l) hX (hM 172) = .ok [([], []), ([], [[73]])] := by
  unfold metR
  have hb : bStat (hM 172).flags = true := by decide
  have hd : decI (hM 172).code = (0, [⟨0, 8, 0, false, false⟩, ⟨1, 172, 0, false, true⟩]) := dec_h1
  have h := metC_wk (E := envM (ownL ++ l) hX (hM 172)) (dec := (0, [⟨0, 8, 0, false, false⟩, ⟨1, 172, 0, false, true⟩])) (len := 2) (stack := 1) (locals := 0) (d := (metER [40, 41, 73], (metD0 [40, 41, 73]).1)) (stat := true) (frames := []) (rows := []) (bg_h l hm 172) (x := (0, [])) rfl rfl rfl
  have e2 : (metD0 [40, 41, 73]).1 = [] := by unfold metD0; rw [hmet]; rfl
  rw [hb, hd]
  refine Eq.trans h ?_
  have hw := walk_h1 (E := envM (ownL ++ l) hX (hM 172)) (show min 1 20 = 1 by decide) (gives_h _ _) (show Ds.kindI [73] = 1 by decide) (fits_h _ _ _ _)
  show (match walkC (envM (ownL ++ l) hX (hM 172)) [] [] [⟨0, 8, 0, false, false⟩, ⟨1, 172, 0, false, true⟩] true ⟨fill (firstLoc (envM (ownL ++ l) hX (hM 172)) true (metD0 [40, 41, 73]).1) 0, [], 0⟩ [] with
      | .er e => Mt.er e
      | .ok known l => if known then .er 60 else .ok l) = _
  rw [e2, show fill (firstLoc (envM (ownL ++ l) hX (hM 172)) true []) 0 = [] from rfl, hw]
  rfl
theorem met_h2 (l : List ClI) (hm : l.any misB = false) : metR (ownL ++ l) hX (hM 177) = .er 62 := by
  unfold metR
  have hb : bStat (hM 177).flags = true := by decide
  have hd : decI (hM 177).code = (0, [⟨0, 8, 0, false, false⟩, ⟨1, 177, 0, false, true⟩]) := dec_h2
  have h := metC_wk (E := envM (ownL ++ l) hX (hM 177)) (dec := (0, [⟨0, 8, 0, false, false⟩, ⟨1, 177, 0, false, true⟩])) (len := 2) (stack := 1) (locals := 0) (d := (metER [40, 41, 73], (metD0 [40, 41, 73]).1)) (stat := true) (frames := []) (rows := []) (bg_h l hm 177) (x := (0, [])) rfl rfl rfl
  have e2 : (metD0 [40, 41, 73]).1 = [] := by unfold metD0; rw [hmet]; rfl
  rw [hb, hd]
  refine Eq.trans h ?_
  have hw := walk_h2 (E := envM (ownL ++ l) hX (hM 177)) (show min 1 20 = 1 by decide) (gives_h _ _) (show Ds.kindI [73] = 1 by decide)
  show (match walkC (envM (ownL ++ l) hX (hM 177)) [] [] [⟨0, 8, 0, false, false⟩, ⟨1, 177, 0, false, true⟩] true ⟨fill (firstLoc (envM (ownL ++ l) hX (hM 177)) true (metD0 [40, 41, 73]).1) 0, [], 0⟩ [] with
      | .er e => Mt.er e
      | .ok known l => if known then .er 60 else .ok l) = _
  rw [e2, show fill (firstLoc (envM (ownL ++ l) hX (hM 177)) true []) 0 = [] from rfl, hw]
end Go.Proofs.YtpdnonlelocfbaaGreatDoor
/- law 08's holds; what is seen of told states. -/
namespace Go.Proofs.YtpdnonlelocfbaaGreatDoor
open Go.RowKit Go Go.Maps
set_option linter.unusedVariables false
theorem flat_at : ∀ (vs : List (Value × Value)) (i : Nat) (p : Value × Value), vs[i]? = some p → (flatV vs)[i * 2]? = some p.1 ∧ (flatV vs)[i * 2 + 1]? = some p.2
  | [], i, p, h => by simp at h
  | q :: r, 0, p, h => by
    simp at h
    subst h
    exact ⟨rfl, rfl⟩
  | q :: r, i + 1, p, h => by
    have := flat_at r i p (by simpa using h)
    rw [show (i + 1) * 2 = i * 2 + 2 by omega]
    exact this
/-- One of the told states, in memory. -/
theorem sts_at {D : Nat → Prop} {T : Nat} {w : World} {st : Value} {L : List Sta} (h : Sts D T w st L) {i : Nat} {x : Sta} (hx : L[i]? = some x) :
    ∃ g cap A1 c1 A2 c2, st = .slice (some ⟨g, 0, none⟩) L.length cap ∧ w.cell? ⟨g, i * 2, none⟩ = some (.slice A1 x.1.length c1) ∧ w.cell? ⟨g, i * 2 + 1, none⟩ = some (.slice A2 x.2.length c2) ∧ Ls (fun _ => True) w (.slice A1 x.1.length c1) x.1 ∧ Ls (fun _ => True) w (.slice A2 x.2.length c2) x.2 := by
  obtain ⟨vs, hvs, hrow, hvl⟩ := h.it
  have hlt := (List.getElem?_eq_some_iff.1 hx).1
  obtain ⟨p, hp⟩ : ∃ p, vs[i]? = some p := ⟨_, List.getElem?_eq_getElem (by omega)⟩
  obtain ⟨h1, h2⟩ := hvl i p x hp hx
  obtain ⟨A1, c1, e1⟩ := h1.shape
  obtain ⟨A2, c2, e2⟩ := h2.shape
  obtain ⟨g, cap, hv, _, _⟩ := hrow.form (by omega)
  obtain ⟨f1, f2⟩ := flat_at vs i p hp
  subst hv
  have q1 := hrow.cells (g := g) rfl _ _ f1
  have q2 := hrow.cells (g := g) rfl _ _ f2
  rw [addr_add, Nat.zero_add] at q1 q2
  rw [e1] at q1 h1
  rw [e2] at q2 h2
  exact ⟨g, cap, A1, c1, A2, c2, rfl, q1, q2, ls_mono h1 (fun _ _ => trivial), ls_mono h2 (fun _ _ => trivial)⟩
theorem short_nil : Short [] := fun c hc => by cases hc
theorem code_lit (W : World) (b : UInt8) (A : Array Value) (hA : A = #[.int .u8 8, .int .u8 (b.toNat : Int)]) : RdX Tru 1 ByE (W.alloc (.cells A 5)) (.slice (some ⟨W.heap.size, 0, none⟩) 2 2) [8, b] := by
  subst hA
  have hown : (W.alloc (.cells #[.int .u8 8, .int .u8 (b.toNat : Int)] 5)).ownsRow W.heap.size 5 1 (.slice (some ⟨W.heap.size, 0, none⟩) 2 2) 2 [.int .u8 8, .int .u8 (b.toNat : Int)] := World.ownsRow_lit (base := W.heap.size) (e := 5) (size := 1) W #[.int .u8 8, .int .u8 (b.toNat : Int)] 2 (Nat.le_refl _) (by unfold maxLen; omega) rfl
  have hr : RowsE 1 (ByE (W.alloc (.cells #[.int .u8 8, .int .u8 (b.toNat : Int)] 5))) [8, b] ([.int .u8 8] ++ [.int .u8 (b.toNat : Int)]) := RowsE.app (l := [8]) (m := [b]) (rowsE_one (show ByE _ 8 [.int .u8 8] from rfl) rfl) (rowsE_one (show ByE _ b [.int .u8 (b.toNat : Int)] from rfl) rfl)
  exact (rdX_own (E := ByE) (l := [8, b]) hown (by simp) hr).any (fun _ _ => trivial)
theorem meS_h (c : UInt8) : MeS (hM c) := ⟨show I6 1 from ⟨by decide, by decide⟩, show I6 0 from ⟨by decide, by decide⟩, show ([40, 41, 73] : Bs).length ≤ 1048576 by decide, fun x hx => (by cases hx), fun x hx => (by cases hx)⟩
theorem method_h {B tb : Nat} {W : World} (hT : TreeOK B W tb (ownL ++ [])) (b : UInt8) (A : Array Value) (hA : A = #[.int .u8 8, .int .u8 (b.toNat : Int)]) :
    Calls Tryz.prog 15 #[.pointer (some ⟨tb, 0, none⟩), .agg #[.int .i64 0, .string ⟨#[97]⟩, .string ⟨#[79, 98, 106, 101, 99, 116]⟩, .slice none 0 0, .slice none 0 0, .slice none 0 0, .slice none 0 0], .agg #[.int .i64 8, .string ⟨#[102]⟩, .string ⟨#[40, 41, 73]⟩, .int .i64 1, .int .i64 0, .slice (some ⟨W.heap.size, 0, none⟩) 2 2, .slice none 0 0, .slice none 0 0]] (W.alloc (.cells A 5)) (MtOut (W.alloc (.cells A 5)) (metR (ownL ++ []) hX (hM b))) := by
  have hT2 := hT.below ((Below.refl _ _).alloc (Nat.le_refl _) (.cells A 5))
  have hM1 : MeE Tru (W.alloc (.cells A 5)) (hM b) [.int .i64 8, .string (tx [102]), .string (tx [40, 41, 73]), .int .i64 1, .int .i64 0, .slice (some ⟨W.heap.size, 0, none⟩) 2 2, .slice none 0 0, .slice none 0 0] := ⟨_, _, _, rfl, code_lit W b A hA, rdX_nil _ _ _ _ _ _ (fun _ => rfl), rdX_nil _ _ _ _ _ _ (fun _ => rfl)⟩
  have hX1 : ClE Tru (W.alloc (.cells A 5)) hX [.int .i64 0, .string (tx [97]), .string (tx [79, 98, 106, 101, 99, 116]), .slice none 0 0, .slice none 0 0, .slice none 0 0, .slice none 0 0] := ⟨_, _, _, _, rfl, rdX_nil _ _ _ _ _ _ (fun _ => rfl), rdX_nil _ _ _ _ _ _ (fun _ => rfl), rdX_nil _ _ _ _ _ _ (fun _ => rfl), rdX_nil _ _ _ _ _ _ (fun _ => rfl)⟩
  exact method_e (l := []) hT2 (lok_of zero_new short_nil (fun c hc => by cases hc)) rfl hX1 hM1 (meS_h b) (fun A' n cap h => by
    injection h with h
    injection h with h1 h2 h3
    subst h2 h3
    exact ⟨Nat.le_refl _, by unfold maxLen; omega⟩) (by decide) (fun c hc => by cases hc) (fun h => by
    have : bStat 8 = false := h
    exact absurd this (by decide))
set_option maxHeartbeats 8000000 in
set_option maxRecDepth 100000 in
theorem holds8 (w : World) :
    Calls Tryz.prog 12 #[] w fun e w' => e = .returned (.bool true) ∧ Below w.heap.size w w' := by
  have HL : Hid (RdX Tru 7 (ClE Tru) w (.slice none 0 0) []) := lhid (rdX_nil _ _ _ _ _ _ (fun _ => rfl))
  go_enter Tryz.func12, Tryz.ntmps12
  go_wp2_with fail
  refine (new_any Tru (.slice none 0 0) [] _ HL (lhid short_nil)).mono ?_
  rintro e w1 ⟨hb1, x, hx, hcase⟩
  have hx0 := newE_fun hx zero_new
  subst hx0
  rcases hcase with ⟨h, _⟩ | ⟨_, tb, rfl, hT⟩
  · exact absurd rfl h
  have HT := lhid hT
  have HB1 := lhid hb1
  clear hT hb1 hx
  go_wp2_with fail
  have hbc : Below w1.heap.size w1 (w1.alloc (.cells #[.int .i64 0, .string ⟨#[97]⟩, .string ⟨#[79, 98, 106, 101, 99, 116]⟩, .slice none 0 0, .slice none 0 0, .slice none 0 0, .slice none 0 0] 39)) := (Below.refl _ _).alloc (Nat.le_refl _) _
  have hcx := heap_alloc_new w1 (.cells #[.int .i64 0, .string ⟨#[97]⟩, .string ⟨#[79, 98, 106, 101, 99, 116]⟩, .slice none 0 0, .slice none 0 0, .slice none 0 0, .slice none 0 0] 39)
  have hsz : (w1.alloc (.cells #[.int .i64 0, .string ⟨#[97]⟩, .string ⟨#[79, 98, 106, 101, 99, 116]⟩, .slice none 0 0, .slice none 0 0, .slice none 0 0, .slice none 0 0] 39)).heap.size = w1.heap.size + 1 := by simp
  generalize w1.alloc (.cells #[.int .i64 0, .string ⟨#[97]⟩, .string ⟨#[79, 98, 106, 101, 99, 116]⟩, .slice none 0 0, .slice none 0 0, .slice none 0 0, .slice none 0 0] 39) = W at *
  have HBC := lhid (HB1.out.trans (Below.less hbc HB1.out.size))
  have HCX := lhid hcx
  have HTW := lhid (HT.out.below hbc)
  rw [← hsz]
  have hba : Below W.heap.size W (W.alloc (.cells #[.int .u8 8, .int .u8 172] 5)) := (Below.refl _ _).alloc (Nat.le_refl _) _
  have HBA := lhid (HBC.out.trans (Below.less hba HBC.out.size))
  have HCA := lhid ((hba.block _ (heap_lt HCX.out)).trans HCX.out)
  have HTA := lhid (HTW.out.below hba)
  clear hbc hcx hba hsz
  refine (method_h HTW.out 172 _ rfl).mono ?_
  rintro e w2 ⟨hb2, hm⟩
  rw [met_h1 [] rfl] at hm
  obtain ⟨st, D, rfl, hst⟩ := hm
  obtain ⟨g, cap, A1, c1, A2, c2, rfl, q1, q2, _, hl2⟩ := sts_at hst (i := 1) rfl
  obtain ⟨g2, o2, hA2, _, q3⟩ := rdX_cell hl2 (i := 0) (t := [73]) rfl
  subst hA2
  have HB2 := lhid (HBA.out.trans (Below.less hb2 HBA.out.size))
  have HT2 := lhid (HTA.out.below hb2)
  have HC2 := lhid ((hb2.block _ (heap_lt HCA.out)).trans HCA.out)
  have HQ2 := lhid q2
  have HQ3 := lhid q3
  have e0 := heap_cell (i := 0) HC2.out rfl
  have e1 := heap_cell (i := 1) HC2.out rfl
  have e2 := heap_cell (i := 2) HC2.out rfl
  have e3 := heap_cell (i := 3) HC2.out rfl
  have e4 := heap_cell (i := 4) HC2.out rfl
  have e5 := heap_cell (i := 5) HC2.out rfl
  have e6 := heap_cell (i := 6) HC2.out rfl
  clear hb2 hst q1 q2 q3 hl2
  go_wp2_with fail
  have hba : Below w2.heap.size w2 (w2.alloc (.cells #[.int .u8 8, .int .u8 177] 5)) := (Below.refl _ _).alloc (Nat.le_refl _) _
  have HBA2 := lhid (HB2.out.trans (Below.less hba HB2.out.size))
  have HQ2' := lhid ((hba.cell (cell_lt HQ2.out)).trans HQ2.out)
  have HQ3' := lhid ((hba.cell (cell_lt HQ3.out)).trans HQ3.out)
  clear hba e0 e1 e2 e3 e4 e5 e6
  refine (method_h HT2.out 177 _ rfl).mono ?_
  rintro e w3 ⟨hb3, hm⟩
  rw [met_h2 [] rfl] at hm
  obtain rfl := hm
  have HB3 := lhid (HBA2.out.trans (Below.less hb3 HBA2.out.size))
  have p2 : w3.cell? ⟨g, 3, none⟩ = some (.slice (some ⟨g2, o2, none⟩) 1 c2) := (hb3.cell (cell_lt HQ2'.out)).trans HQ2'.out
  have p3 : w3.cell? ⟨g2, o2, none⟩ = some (.string (tx [73])) := (hb3.cell (cell_lt HQ3'.out)).trans HQ3'.out
  have dI : ((tx [73]).toList == [73]) = true := by rw [tx_toL]; rfl
  clear hb3
  go_wp2_with fail
  go_ret
  exact ⟨rfl, HB3.out⟩
end Go.Proofs.YtpdnonlelocfbaaGreatDoor
/- law 08's light. -/
namespace Go.Proofs.YtpdnonlelocfbaaGreatDoor
open Go.RowKit Go Go.Maps
set_option linter.unusedVariables false
theorem sz_fr8 : (Tryz.prog.info? 94).map (·.size) = some 3 := by kernel_rfl
set_option maxHeartbeats 16000000 in
set_option maxRecDepth 100000 in
theorem light8 (P : Nat → Prop) (v : Value) (l : List ClI) (w : World) (h : Hid (RdX P 7 (ClE P) w v l)) {mf ms ml : Int} {m1 md : ByteArray} {B5 B6 B7 : Option Addr} {n5 n6 e5 e6 e7 : Nat} {frames : List FrI} (hf : Hid (RdX P 3 (FrE P) w (.slice B7 frames.length e7) frames)) :
    Calls Tryz.prog 13 #[v, .agg #[.int .i64 mf, .string m1, .string md, .int .i64 ms, .int .i64 ml, .slice B5 n5 e5, .slice B6 n6 e6, .slice B7 frames.length e7]] w fun e w' => ∃ r : Bool, e = .returned (.bool r) ∧ Below w.heap.size w w' := by
  obtain ⟨A, cap, rfl⟩ := h.out.shape
  have hlen := h.out.len
  have hlenf := hf.out.len
  have hb0 : Below w.heap.size w (w.alloc (.cells #[.int .i64 mf, .string m1, .string md, .int .i64 ms, .int .i64 ml, .slice B5 n5 e5, .slice B6 n6 e6, .slice B7 frames.length e7] 27)) := (Below.refl _ _).alloc (Nat.le_refl _) _
  have hz0 := heap_alloc_new w (.cells #[.int .i64 mf, .string m1, .string md, .int .i64 ms, .int .i64 ml, .slice B5 n5 e5, .slice B6 n6 e6, .slice B7 frames.length e7] 27)
  obtain ⟨W, hW⟩ : ∃ x, w.alloc (.cells #[.int .i64 mf, .string m1, .string md, .int .i64 ms, .int .i64 ml, .slice B5 n5 e5, .slice B6 n6 e6, .slice B7 frames.length e7] 27) = x := ⟨_, rfl⟩
  rw [hW] at hb0 hz0
  have HW := lhid hW
  have HB0 := lhid hb0
  have HZ0 := lhid hz0
  have H1 := lhid (h.out.below (keptX_cl P) hb0)
  have HF1 := lhid (hf.out.below (keptX_fr P) hb0)
  clear hW hb0 hz0
  go_enter Tryz.func13, Tryz.ntmps13
  go_upto_region 1 with fail
  rw [HW.out]
  have z5 := heap_cell (i := 5) HZ0.out rfl
  have z6 := heap_cell (i := 6) HZ0.out rfl
  have z7 := heap_cell (i := 7) HZ0.out rfl
  go_wp2_with fail
  go_loopw [5, 23] (fun s i wr => ∃ (kk : Nat) (n : Int), s = .int .i64 n ∧ i = .int .i64 kk ∧ kk ≤ l.length ∧ Hid (Below W.heap.size W wr)) (fun _ i _ => l.length - (intOf i).toNat)
  case atStart => exact ⟨0, _, rfl, rfl, Nat.zero_le _, lhid (Below.refl _ _)⟩
  case round =>
    obtain ⟨kk, n, rfl, rfl, hkk, HB⟩ := hrel
    have hbs := HB.out.size
    by_cases hlt : kk < l.length
    · obtain ⟨x, hx⟩ : ∃ x, l[kk]? = some x := ⟨_, List.getElem?_eq_getElem hlt⟩
      obtain ⟨ga, oa, cc, rfl, _, hE, hc⟩ := (H1.out.below (keptX_cl P) HB.out).at' hx
      have hc1 := row_cl _ _ _ _ hE
      have HCL := lhid hc1.1
      have HRA : Hid (wr.rangeAt ga (oa + kk * 7) cc) := lhid hc
      have HSZ : Hid ((Tryz.prog.info? 39).map (·.size) = some cc.length) := lhid (by rw [hc1.1]; exact sz_cl)
      have HSA : Hid ((Tryz.prog.info? 39).map (·.size) = some cc.toArray.size) := lhid (by simpa using HSZ.out)
      have HALL : Hid (cc.toArray.all (·.oneCell') = true) := lhid (all_oneCell_toArray hc1.2)
      have hth : (wr.alloc (.cells #[.int .i64 0, .string ⟨#[]⟩, .string ⟨#[]⟩, .slice none 0 0, .slice none 0 0, .slice none 0 0, .slice none 0 0] 39)).there wr.heap.size 0 7 := fun j hj => ⟨by
        rw [Nat.zero_add, heap_cell (heap_alloc_new wr _) (Array.getElem?_eq_getElem (by simpa using hj))]; rfl, heap_thaw (heap_alloc_new wr _) _⟩
      have HTA : Hid ((wr.alloc (.cells #[.int .i64 0, .string ⟨#[]⟩, .string ⟨#[]⟩, .slice none 0 0, .slice none 0 0, .slice none 0 0, .slice none 0 0] 39)).there wr.heap.size 0 cc.toArray.size) := lhid (by rw [show cc.toArray.size = 7 by simpa using hc1.1]; exact hth)
      have HRB : Hid (((wr.alloc (.cells #[.int .i64 0, .string ⟨#[]⟩, .string ⟨#[]⟩, .slice none 0 0, .slice none 0 0, .slice none 0 0, .slice none 0 0] 39)).setCells wr.heap.size 0 cc).rangeAt wr.heap.size 0 cc) := lhid (World.rangeAt_setCells_same _ _ _ _ (by rw [hc1.1]; exact hth))
      have HW2 : Hid (Below wr.heap.size wr ((wr.alloc (.cells #[.int .i64 0, .string ⟨#[]⟩, .string ⟨#[]⟩, .slice none 0 0, .slice none 0 0, .slice none 0 0, .slice none 0 0] 39)).setCells wr.heap.size 0 cc)) := lhid (below_cells ((Below.refl wr.heap.size wr).alloc (Nat.le_refl _) _) (Nat.le_refl _) _ _)
      have hsz1 : ((wr.alloc (.cells #[.int .i64 0, .string ⟨#[]⟩, .string ⟨#[]⟩, .slice none 0 0, .slice none 0 0, .slice none 0 0, .slice none 0 0] 39)).setCells wr.heap.size 0 cc).heap.size = wr.heap.size + 1 := by rw [setCells_size]; simp
      have HS1 := lhid hsz1
      have k3 : (kk : Int) < l.length := by omega
      have HBN := lhid (HB.out.trans (Below.less HW2.out hbs))
      obtain ⟨a, p, b, d, hcc, r1, r2, r3, r4⟩ := hE
      obtain ⟨xa, da, rfl⟩ := r1.shape
      obtain ⟨xp, dp, rfl⟩ := r2.shape
      obtain ⟨xb, db, rfl⟩ := r3.shape
      obtain ⟨xd, dd, rfl⟩ := r4.shape
      have q3 : ((wr.alloc (.cells #[.int .i64 0, .string ⟨#[]⟩, .string ⟨#[]⟩, .slice none 0 0, .slice none 0 0, .slice none 0 0, .slice none 0 0] 39)).setCells wr.heap.size 0 cc).cell? ⟨wr.heap.size, 3, none⟩ = some (.slice xa x.ifaces.length da) := HRB.out 3 _ (by rw [hcc]; rfl)
      have q4 : ((wr.alloc (.cells #[.int .i64 0, .string ⟨#[]⟩, .string ⟨#[]⟩, .slice none 0 0, .slice none 0 0, .slice none 0 0, .slice none 0 0] 39)).setCells wr.heap.size 0 cc).cell? ⟨wr.heap.size, 4, none⟩ = some (.slice xp x.pool.length dp) := HRB.out 4 _ (by rw [hcc]; rfl)
      have q5 : ((wr.alloc (.cells #[.int .i64 0, .string ⟨#[]⟩, .string ⟨#[]⟩, .slice none 0 0, .slice none 0 0, .slice none 0 0, .slice none 0 0] 39)).setCells wr.heap.size 0 cc).cell? ⟨wr.heap.size, 5, none⟩ = some (.slice xb x.fields.length db) := HRB.out 5 _ (by rw [hcc]; rfl)
      have q6 : ((wr.alloc (.cells #[.int .i64 0, .string ⟨#[]⟩, .string ⟨#[]⟩, .slice none 0 0, .slice none 0 0, .slice none 0 0, .slice none 0 0] 39)).setCells wr.heap.size 0 cc).cell? ⟨wr.heap.size, 6, none⟩ = some (.slice xd x.methods.length dd) := HRB.out 6 _ (by rw [hcc]; rfl)
      clear hx hc hc1 hth hsz1 hcc r1 r2 r3 r4
      clear z5 z6 z7
      go_wp2_with (first | (refine wpList_load_mid rfl 39 _ rfl ga (oa + kk * 7) rfl cc _ HRA.out Tryz.underlying39 (by rfl) HSZ.out ?_) | (refine wpList_store_mid rfl 39 _ _ rfl wr.heap.size 0 cc.toArray rfl rfl HTA.out HSA.out HALL.out ?_))
      go_roundw
      case rel => exact ⟨kk + 1, _, rfl, by go_num, by omega, HBN⟩
      case measure => simp [intOf]; omega
    · have k3 : ¬ (kk : Int) < l.length := by omega
      have y7 := (HB.out.cell (cell_lt z7)).trans z7
      clear z5 z6 z7
      go_wp2_with fail
      go_loopw [5, 49] (fun s i wq => ∃ (jj : Nat) (n : Int), s = .int .i64 n ∧ i = .int .i64 jj ∧ jj ≤ frames.length ∧ Hid (Below W.heap.size W wq)) (fun _ i _ => frames.length - (intOf i).toNat)
      case atStart => exact ⟨0, _, rfl, rfl, Nat.zero_le _, HB⟩
      case round =>
        obtain ⟨jj, n, rfl, rfl, hjj, HBq⟩ := hrel
        have hbq := HBq.out.size
        by_cases hlt2 : jj < frames.length
        · obtain ⟨x, hx⟩ : ∃ x, frames[jj]? = some x := ⟨_, List.getElem?_eq_getElem hlt2⟩
          obtain ⟨ga, oa, cc, rfl, _, ⟨va, vb, rfl, ha, hb⟩, hc⟩ := (HF1.out.below (keptX_fr P) HBq.out).at' hx
          obtain ⟨Aa, ca, rfl⟩ := ha.shape
          obtain ⟨Ab, cb, rfl⟩ := hb.shape
          have c0 : wr.cell? ⟨ga, oa + jj * 3, none⟩ = some (.int .i64 x.pc) := hc 0 _ rfl
          have c1 : wr.cell? ⟨ga, oa + jj * 3 + 1, none⟩ = some (.slice Aa x.locals.length ca) := hc 1 _ rfl
          have c2 : wr.cell? ⟨ga, oa + jj * 3 + 2, none⟩ = some (.slice Ab x.stack.length cb) := hc 2 _ rfl
          have k4 : (jj : Int) < frames.length := by omega
          have HB2 := lhid (HBq.out.alloc hbq (.cells #[.int .i64 x.pc, .slice Aa x.locals.length ca, .slice Ab x.stack.length cb] 94))
          clear hx hc ha hb y7
          go_wp2_with fail
          go_roundw
          case rel => exact ⟨jj + 1, _, rfl, by go_num, by omega, HB2⟩
          case measure => simp [intOf]; omega
        · have k4 : ¬ (jj : Int) < frames.length := by omega
          have x7 := (HBq.out.cell (cell_lt (heap_cell (i := 7) HZ0.out rfl))).trans (heap_cell (i := 7) HZ0.out rfl)
          have HBF := lhid (HB0.out.trans (Below.less HBq.out HB0.out.size))
          clear y7
          by_cases hn : n ≤ 3000
          · go_wp2_with fail
            go_ret
            refine ⟨?_, HBF.out⟩
            generalize (decide ((frames.length : Int) ≤ 300)) = b0
            cases b0 <;> first | exact .inl (by rfl) | exact .inr (by rfl)
          · go_wp2_with fail
            go_ret
            refine ⟨?_, HBF.out⟩
            first | exact .inl (by rfl) | exact .inr (by rfl)
end Go.Proofs.YtpdnonlelocfbaaGreatDoor
