/- An argument that is a class, opened under the second form's bound: what memory holds of it, and what it weighs. -/
import Derived.Test.YtgihfcimngogfaaGreatJFileWrC
import Derived.Test.YtgihfcimngogfaaGreatM6
import Derived.Test.YtgihfcimngogfaaGreatM7
import Derived.Test.YtgihfcimngogfaaGreatRows
import Derived.ChangeSlices
import Derived.OpenShut
import Derived.WideShapes
import Derived.SizedLaws
import Derived.Deep.Slices
namespace Go.Proofs.YtgihfcimngogfaaGreat
open Go.RowKit Go Go.ChangeShapes Go.WideShapes
set_option linter.unusedVariables false
set_option linter.unusedSimpArgs false
theorem one_bulk {H : Type} (d : DataW H) : 1 ≤ Rows.uptoBulk d := by
 cases d with
 | lit l => cases l <;> simp [Rows.uptoBulk]
 | _ => simp [Rows.uptoBulk]
theorem bulk_mem {H : Type} : ∀ {l : List (DataW H)} {d : DataW H}, d ∈ l → Rows.uptoBulk d ≤ Rows.uptoBulkAll l
 | [], _, h => by simp at h
 | x :: l, d, h => by
  simp only [Rows.uptoBulkAll]
  rcases List.mem_cons.1 h with rfl | h
  ·omega
  ·have := bulk_mem h
   omega
theorem bulk_len {H : Type} : ∀ l : List (DataW H), l.length ≤ Rows.uptoBulkAll l
 | [] => by simp [Rows.uptoBulkAll]
 | x :: l => by
  have h1 := bulk_len l
  have h2 := one_bulk x
  simp only [Rows.uptoBulkAll, List.length_cons]
  omega
section
variable {P : Program} {H : Type} {enc : TypeId × Value → H} {w : World} {base fuel : Nat}
theorem fields_of {t : TypeId} {fs : Array Field} {cs : List Value} {d : DataW H} {ps : List MemPlace} (ht : P.underlying t = some (.struct fs)) (h : DataW.trod enc P w base (fun _ => true) true fuel t cs = some (d, ps)) (hb : Rows.uptoBulk d ≤ 1048576) :
  ∃ parts, d = .agg parts ∧ parts.length = fs.size ∧ ∀ (i : Nat) (f : Field), fs[i]? = some f → ∃ n d' ps', parts[i]? = some d' ∧ DataW.trod enc P w base (fun _ => true) true n f.type ((cs.drop f.offset).take (P.cellsOf f.type)) = some (d', ps') ∧ Rows.uptoBulk d' ≤ 1048576 := by
 obtain ⟨xs, n, _, hx, _, hl, hfs⟩ := DataW.trod_struct ht h
 simp only [Prod.mk.injEq] at hx
 refine ⟨xs.map (·.1), hx.1, by rw [List.length_map, hl], fun i f hf => ?_⟩
 have h1 := hfs i f hf
 have hi : i < xs.length := by
  rw [hl]
  exact (Array.getElem?_eq_some_iff.1 hf).1
 rw [List.getElem?_eq_getElem hi] at h1
 have hp : (xs.map (·.1))[i]? = some (xs[i]).1 := by rw [List.getElem?_map, List.getElem?_eq_getElem hi]; rfl
 refine ⟨n, (xs[i]).1, (xs[i]).2, hp, h1, ?_⟩
 have := bulk_mem (List.mem_of_getElem? hp)
 rw [hx.1] at hb
 simp only [Rows.uptoBulk] at hb
 omega
def sumL {α : Type} (M : α → Nat) (l : List α) : Nat := (l.map M).sum
theorem sumL_range {α : Type} {M : α → Nat} {f : Nat → α} {D : Nat → DataW H} : ∀ r : List Nat, (∀ i ∈ r, M (f i) ≤ Rows.uptoBulk (D i)) → sumL M (r.map f) ≤ Rows.uptoBulkAll (r.map D)
 | [], _ => by simp [sumL, Rows.uptoBulkAll]
 | i :: r, h => by
  have h1 := h i List.mem_cons_self
  have h2 := sumL_range (M := M) (f := f) (D := D) r fun j hj => h j (List.mem_cons_of_mem _ hj)
  simp only [sumL] at h2
  simp only [sumL, List.map_cons, List.sum_cons, Rows.uptoBulkAll]
  omega
theorem open_list {α : Type} [Inhabited α] {E : World → α → List Value → Prop} {M : α → Nat} {t e : TypeId} {k : Nat} {v : Value} {d : DataW H} {ps : List MemPlace} (ht : P.underlying t = some (.slice e)) (ce : P.cellsOf e = k) (hk : 0 < k)
  (each : ∀ fuel cs d ps, cs.length = k → DataW.trod enc P w base (fun _ => true) true fuel e cs = some (d, ps) → Rows.uptoBulk d ≤ 1048576 → ∃ x : α, E w x cs ∧ M x ≤ Rows.uptoBulk d)
  (h : DataW.trod enc P w base (fun _ => true) true fuel t [v] = some (d, ps)) (hb : Rows.uptoBulk d ≤ 1048576) : ∃ l : List α, RdL k E w v l ∧ sumL M l + 1 ≤ Rows.uptoBulk d := by
 rcases Go.Deep.open_slice ht h with ⟨hcs, hx⟩ | ⟨a, len, cap, m, n, D, Pl, hcs, _, hl, hm, hmm, hx, hel⟩
 ·simp at hcs
  subst hcs
  simp only [Prod.mk.injEq] at hx
  rw [hx.1]
  exact ⟨[], rdL_nil _ _ _, by simp [sumL, Rows.uptoBulk]⟩
 ·simp at hcs
  subst hcs
  simp only [if_true] at hmm
  simp only [Prod.mk.injEq] at hx
  have hd := hx.1
  subst hd
  have hb' : Rows.uptoBulkAll ((List.range len).map D) < 1048576 := by
   simp only [Rows.uptoBulk] at hb
   omega
  have hlen : len ≤ 140737488355328 := by
   have := bulk_len ((List.range len).map D)
   rw [List.length_map, List.length_range] at this
   omega
  have got : ∀ i, i < len → ∃ x : α, M x ≤ Rows.uptoBulk (D i) ∧ ∃ cs', E w x cs' ∧ w.cells? base (a.add (i * k)) k = some cs' := by
   intro i hi
   obtain ⟨cs', h1, h2⟩ := hel i (by omega)
   rw [ce] at h1
   obtain ⟨_, hcl, _⟩ := World.cells?_some h1
   have hbi := bulk_mem (l := (List.range len).map D) (d := D i) (List.mem_map.2 ⟨i, List.mem_range.2 hi, rfl⟩)
   obtain ⟨x, hx', hM⟩ := each n cs' (D i) (Pl i) hcl h2 (by omega)
   exact ⟨x, hM, cs', hx', h1⟩
  obtain ⟨f, hf⟩ := Go.Deep.choose_lt got
  have hfl : ((List.range len).map f).length = len := by simp
  have hsum := sumL_range (M := M) (f := f) (D := D) (List.range len) fun i hi => (hf i (List.mem_range.1 hi)).1
  refine ⟨(List.range len).map f, ⟨some a, cap, by rw [hfl], by rw [hfl]; exact hlen, fun i x hi => ?_⟩, by simp only [Rows.uptoBulk]; omega⟩
  have hil : i < len := by
   have := (List.getElem?_eq_some_iff.1 hi).1
   omega
  rw [List.getElem?_map, List.getElem?_range hil] at hi
  simp only [Option.map_some, Option.some.injEq] at hi
  subst hi
  obtain ⟨_, cs', hE, hc⟩ := hf i hil
  obtain ⟨_, hcl, hcell⟩ := World.cells?_some hc
  obtain ⟨b, o, sp⟩ := a
  have hs : sp = none := by
   obtain ⟨_, cs0, _, hc0⟩ := hf 0 (by omega)
   obtain ⟨_, hl0, hcell0⟩ := World.cells?_some hc0
   have h0 := hcell0 0 hk
   rw [List.getElem?_eq_getElem (by omega)] at h0
   have := World.cell?_spot h0
   simpa [Addr.add] using this
  subst hs
  refine ⟨b, o, cs', rfl, hE, fun j u hj => ?_⟩
  have hjk : j < k := by
   have := (List.getElem?_eq_some_iff.1 hj).1
   omega
  have hc' := hcell j hjk
  rw [Go.Deep.add_add, add_plain, ← Nat.add_assoc] at hc'
  exact hc'.trans hj
end
theorem RdL.part {α : Type} {k : Nat} {E : World → α → List Value → Prop} {Q : α → Prop} {w : World} {v : Value} {l : List α} (h : RdL k (fun w x c => E w x c ∧ Q x) w v l) : RdL k E w v l ∧ ∀ x ∈ l, Q x := by
 obtain ⟨A, cap, h1, h2, h3⟩ := h
 refine ⟨⟨A, cap, h1, h2, fun i a hi => ?_⟩, fun x hx => ?_⟩
 ·obtain ⟨g, o, c, h4, h5, h6⟩ := h3 i a hi
  exact ⟨g, o, c, h4, h5.1, h6⟩
 ·obtain ⟨i, hi, rfl⟩ := List.getElem_of_mem hx
  obtain ⟨g, o, c, h4, h5, h6⟩ := h3 i _ (List.getElem?_eq_getElem hi)
  exact h5.2
def CoN (x : CoI) : Prop := I64 x.kind ∧ I64 x.num
def FlN (x : FlI) : Prop := I64 x.flags
def RwN (x : RwI) : Prop := I64 x.fr ∧ I64 x.too ∧ I64 x.at_
def FrN (x : FrI) : Prop := I64 x.pc
def MeN (m : MeI) : Prop := I64 m.flags ∧ I64 m.stack ∧ I64 m.locals ∧ (∀ x ∈ m.rows, RwN x) ∧ ∀ x ∈ m.frames, FrN x
def ClN (c : ClI) : Prop := I64 c.flags ∧ (∀ x ∈ c.pool, CoN x) ∧ (∀ x ∈ c.fields, FlN x) ∧ ∀ x ∈ c.methods, MeN x
def nStr (t : Bs) : Nat := t.length + 1
def nByt (_ : UInt8) : Nat := 1
def CoM (x : CoI) : Nat := x.text.length + x.name.length + x.desc.length + 6
def FlM (x : FlI) : Nat := x.name.length + x.desc.length + 4
def RwM (x : RwI) : Nat := x.cls.length + 5
def FrM (x : FrI) : Nat := sumL nStr x.locals + sumL nStr x.stack + 4
def MeM (m : MeI) : Nat := m.name.length + m.desc.length + sumL nByt m.code + sumL RwM m.rows + sumL FrM m.frames + 9
def ClM (c : ClI) : Nat := c.name.length + c.super.length + sumL nStr c.ifaces + sumL CoM c.pool + sumL FlM c.fields + sumL MeM c.methods + 8
theorem sumL_byt (l : Bs) : sumL nByt l = l.length := by
 induction l with
 | nil => rfl
 | cons x l ih =>
  simp only [sumL, List.map_cons, List.sum_cons, nByt, List.length_cons] at ih ⊢
  omega
theorem bulk_tx {H : Type} (t : Bs) : nStr t ≤ Rows.uptoBulk (DataW.lit (.string (tx t).data.toList) : DataW H) := by
 simp [Rows.uptoBulk, nStr, tx]
theorem bulk_int {H : Type} {k : IntKind} (n : Int) : 1 ≤ Rows.uptoBulk (DataW.lit (.int k n) : DataW H) := by simp [Rows.uptoBulk]
instance : Inhabited CoI := ⟨⟨0, 0, [], [], []⟩⟩
instance : Inhabited FlI := ⟨⟨0, [], []⟩⟩
instance : Inhabited RwI := ⟨⟨0, 0, 0, []⟩⟩
instance : Inhabited FrI := ⟨⟨0, [], []⟩⟩
instance : Inhabited MeI := ⟨⟨0, [], [], 0, 0, [], [], []⟩⟩
theorem tx_any (s : ByteArray) : ∃ t : Bs, s = tx t := ⟨s.data.toList, by cases s; simp [tx]⟩
theorem ocint : Tryz.prog.cellsOf 3 = 1 := by kernel_rfl
theorem ocint64 : Tryz.prog.cellsOf 2 = 1 := by kernel_rfl
theorem ocstring : Tryz.prog.cellsOf 9 = 1 := by kernel_rfl
theorem ocuint8 : Tryz.prog.cellsOf 5 = 1 := by kernel_rfl
theorem ocLstring : Tryz.prog.cellsOf 22 = 1 := by kernel_rfl
theorem ocLuint8 : Tryz.prog.cellsOf 28 = 1 := by kernel_rfl
theorem ocLRow : Tryz.prog.cellsOf 59 = 1 := by kernel_rfl
theorem ocLFrame : Tryz.prog.cellsOf 60 = 1 := by kernel_rfl
theorem ocLConst : Tryz.prog.cellsOf 23 = 1 := by kernel_rfl
theorem ocLField : Tryz.prog.cellsOf 24 = 1 := by kernel_rfl
theorem ocLMethod : Tryz.prog.cellsOf 25 = 1 := by kernel_rfl
theorem ocConst : Tryz.prog.cellsOf 39 = 5 := by kernel_rfl
theorem ocField : Tryz.prog.cellsOf 57 = 3 := by kernel_rfl
theorem ocRow : Tryz.prog.cellsOf 88 = 4 := by kernel_rfl
theorem ocFrame : Tryz.prog.cellsOf 74 = 3 := by kernel_rfl
theorem ocMethod : Tryz.prog.cellsOf 62 = 8 := by kernel_rfl
section
variable {H : Type} {enc : TypeId × Value → H} {w : World} {base : Nat}
theorem st_each (fuel : Nat) (cs : List Value) (d : DataW H) (ps : List MemPlace) (hl : cs.length = 1) (h : DataW.trod enc Tryz.prog w base (fun _ => true) true fuel 9 cs = some (d, ps)) (hb : Rows.uptoBulk d ≤ 1048576) : ∃ x : Bs, StIE w x cs ∧ nStr x ≤ Rows.uptoBulk d := by
 obtain ⟨s, rfl, hx, _⟩ := DataW.trod_string Tryz.underlying9 h
 obtain ⟨t, rfl⟩ := tx_any s
 simp at hx
 refine ⟨t, rfl, ?_⟩
 rw [hx.1]
 exact bulk_tx t
theorem by_each (fuel : Nat) (cs : List Value) (d : DataW H) (ps : List MemPlace) (hl : cs.length = 1) (h : DataW.trod enc Tryz.prog w base (fun _ => true) true fuel 5 cs = some (d, ps)) (hb : Rows.uptoBulk d ≤ 1048576) : ∃ x : UInt8, ByIE w x cs ∧ nByt x ≤ Rows.uptoBulk d := by
 obtain ⟨n, rfl, hx, hwf⟩ := DataW.trod_int Tryz.underlying5 h
 have hb2 := bounds_u8 hwf
 simp at hx
 refine ⟨UInt8.ofNat n.toNat, ?_, by rw [hx.1]; simp [Rows.uptoBulk, nByt]⟩
 have h1 : (UInt8.ofNat n.toNat).toNat = n.toNat := by
  rw [UInt8.toNat_ofNat']
  exact Nat.mod_eq_of_lt (by omega)
 show [Value.int .u8 n] = [.int .u8 ((UInt8.ofNat n.toNat).toNat : Int)]
 rw [h1]
 congr 2
 omega
set_option maxRecDepth 100000 in
theorem co_each (fuel : Nat) (cs : List Value) (d : DataW H) (ps : List MemPlace) (hl : cs.length = 5) (h : DataW.trod enc Tryz.prog w base (fun _ => true) true fuel 39 cs = some (d, ps)) (hb : Rows.uptoBulk d ≤ 1048576) : ∃ x : CoI, (CoIE w x cs ∧ CoN x) ∧ CoM x ≤ Rows.uptoBulk d := by
 obtain ⟨parts, rfl, hpl, hf⟩ := fields_of Tryz.underlying39 h hb
 replace hpl : parts.length = 5 := hpl
 match cs, hl, parts, hpl with
 | [y0, y1, y2, y3, y4], _, [d0, d1, d2, d3, d4], _ =>
  obtain ⟨n0, z0, p0, a0, g0, w0⟩ := hf 0 _ rfl
  simp at a0
  subst a0
  obtain ⟨n1, z1, p1, a1, g1, w1⟩ := hf 1 _ rfl
  simp at a1
  subst a1
  obtain ⟨n2, z2, p2, a2, g2, w2⟩ := hf 2 _ rfl
  simp at a2
  subst a2
  obtain ⟨n3, z3, p3, a3, g3, w3⟩ := hf 3 _ rfl
  simp at a3
  subst a3
  obtain ⟨n4, z4, p4, a4, g4, w4⟩ := hf 4 _ rfl
  simp at a4
  subst a4
  clear hf h hb
  simp [ocint, ocint64, ocstring, ocuint8, ocLstring, ocLuint8, ocLRow, ocLFrame, ocLConst, ocLField, ocLMethod] at g0 g1 g2 g3 g4
  obtain ⟨x0, e0, m0, b0⟩ := DataW.trod_int Tryz.underlying3 g0
  simp at e0 m0
  subst e0
  have u0 := bulk_int (H := H) (k := .i64) x0
  rw [← m0.1] at u0
  obtain ⟨x1, e1, m1, b1⟩ := DataW.trod_int Tryz.underlying2 g1
  simp at e1 m1
  subst e1
  have u1 := bulk_int (H := H) (k := .i64) x1
  rw [← m1.1] at u1
  obtain ⟨s2, e2, m2, _⟩ := DataW.trod_string Tryz.underlying9 g2
  obtain ⟨x2, rfl⟩ := tx_any s2
  simp only [Prod.mk.injEq] at m2
  simp at e2
  subst e2
  have u2 := bulk_tx (H := H) x2
  rw [← m2.1] at u2
  unfold nStr at u2
  obtain ⟨s3, e3, m3, _⟩ := DataW.trod_string Tryz.underlying9 g3
  obtain ⟨x3, rfl⟩ := tx_any s3
  simp only [Prod.mk.injEq] at m3
  simp at e3
  subst e3
  have u3 := bulk_tx (H := H) x3
  rw [← m3.1] at u3
  unfold nStr at u3
  obtain ⟨s4, e4, m4, _⟩ := DataW.trod_string Tryz.underlying9 g4
  obtain ⟨x4, rfl⟩ := tx_any s4
  simp only [Prod.mk.injEq] at m4
  simp at e4
  subst e4
  have u4 := bulk_tx (H := H) x4
  rw [← m4.1] at u4
  unfold nStr at u4
  refine ⟨⟨x0, x1, x2, x3, x4⟩, ⟨rfl, bounds_i64 b0, bounds_i64 b1⟩, ?_⟩
  simp only [CoM, Rows.uptoBulk, Rows.uptoBulkAll]
  omega
set_option maxRecDepth 100000 in
theorem fl_each (fuel : Nat) (cs : List Value) (d : DataW H) (ps : List MemPlace) (hl : cs.length = 3) (h : DataW.trod enc Tryz.prog w base (fun _ => true) true fuel 57 cs = some (d, ps)) (hb : Rows.uptoBulk d ≤ 1048576) : ∃ x : FlI, (FlIE w x cs ∧ FlN x) ∧ FlM x ≤ Rows.uptoBulk d := by
 obtain ⟨parts, rfl, hpl, hf⟩ := fields_of Tryz.underlying57 h hb
 replace hpl : parts.length = 3 := hpl
 match cs, hl, parts, hpl with
 | [y0, y1, y2], _, [d0, d1, d2], _ =>
  obtain ⟨n0, z0, p0, a0, g0, w0⟩ := hf 0 _ rfl
  simp at a0
  subst a0
  obtain ⟨n1, z1, p1, a1, g1, w1⟩ := hf 1 _ rfl
  simp at a1
  subst a1
  obtain ⟨n2, z2, p2, a2, g2, w2⟩ := hf 2 _ rfl
  simp at a2
  subst a2
  clear hf h hb
  simp [ocint, ocint64, ocstring, ocuint8, ocLstring, ocLuint8, ocLRow, ocLFrame, ocLConst, ocLField, ocLMethod] at g0 g1 g2
  obtain ⟨x0, e0, m0, b0⟩ := DataW.trod_int Tryz.underlying3 g0
  simp at e0 m0
  subst e0
  have u0 := bulk_int (H := H) (k := .i64) x0
  rw [← m0.1] at u0
  obtain ⟨s1, e1, m1, _⟩ := DataW.trod_string Tryz.underlying9 g1
  obtain ⟨x1, rfl⟩ := tx_any s1
  simp only [Prod.mk.injEq] at m1
  simp at e1
  subst e1
  have u1 := bulk_tx (H := H) x1
  rw [← m1.1] at u1
  unfold nStr at u1
  obtain ⟨s2, e2, m2, _⟩ := DataW.trod_string Tryz.underlying9 g2
  obtain ⟨x2, rfl⟩ := tx_any s2
  simp only [Prod.mk.injEq] at m2
  simp at e2
  subst e2
  have u2 := bulk_tx (H := H) x2
  rw [← m2.1] at u2
  unfold nStr at u2
  refine ⟨⟨x0, x1, x2⟩, ⟨rfl, bounds_i64 b0⟩, ?_⟩
  simp only [FlM, Rows.uptoBulk, Rows.uptoBulkAll]
  omega
set_option maxRecDepth 100000 in
theorem rw_each (fuel : Nat) (cs : List Value) (d : DataW H) (ps : List MemPlace) (hl : cs.length = 4) (h : DataW.trod enc Tryz.prog w base (fun _ => true) true fuel 88 cs = some (d, ps)) (hb : Rows.uptoBulk d ≤ 1048576) : ∃ x : RwI, (RwIE w x cs ∧ RwN x) ∧ RwM x ≤ Rows.uptoBulk d := by
 obtain ⟨parts, rfl, hpl, hf⟩ := fields_of Tryz.underlying88 h hb
 replace hpl : parts.length = 4 := hpl
 match cs, hl, parts, hpl with
 | [y0, y1, y2, y3], _, [d0, d1, d2, d3], _ =>
  obtain ⟨n0, z0, p0, a0, g0, w0⟩ := hf 0 _ rfl
  simp at a0
  subst a0
  obtain ⟨n1, z1, p1, a1, g1, w1⟩ := hf 1 _ rfl
  simp at a1
  subst a1
  obtain ⟨n2, z2, p2, a2, g2, w2⟩ := hf 2 _ rfl
  simp at a2
  subst a2
  obtain ⟨n3, z3, p3, a3, g3, w3⟩ := hf 3 _ rfl
  simp at a3
  subst a3
  clear hf h hb
  simp [ocint, ocint64, ocstring, ocuint8, ocLstring, ocLuint8, ocLRow, ocLFrame, ocLConst, ocLField, ocLMethod] at g0 g1 g2 g3
  obtain ⟨x0, e0, m0, b0⟩ := DataW.trod_int Tryz.underlying3 g0
  simp at e0 m0
  subst e0
  have u0 := bulk_int (H := H) (k := .i64) x0
  rw [← m0.1] at u0
  obtain ⟨x1, e1, m1, b1⟩ := DataW.trod_int Tryz.underlying3 g1
  simp at e1 m1
  subst e1
  have u1 := bulk_int (H := H) (k := .i64) x1
  rw [← m1.1] at u1
  obtain ⟨x2, e2, m2, b2⟩ := DataW.trod_int Tryz.underlying3 g2
  simp at e2 m2
  subst e2
  have u2 := bulk_int (H := H) (k := .i64) x2
  rw [← m2.1] at u2
  obtain ⟨s3, e3, m3, _⟩ := DataW.trod_string Tryz.underlying9 g3
  obtain ⟨x3, rfl⟩ := tx_any s3
  simp only [Prod.mk.injEq] at m3
  simp at e3
  subst e3
  have u3 := bulk_tx (H := H) x3
  rw [← m3.1] at u3
  unfold nStr at u3
  refine ⟨⟨x0, x1, x2, x3⟩, ⟨rfl, bounds_i64 b0, bounds_i64 b1, bounds_i64 b2⟩, ?_⟩
  simp only [RwM, Rows.uptoBulk, Rows.uptoBulkAll]
  omega
set_option maxRecDepth 100000 in
theorem fr_each (fuel : Nat) (cs : List Value) (d : DataW H) (ps : List MemPlace) (hl : cs.length = 3) (h : DataW.trod enc Tryz.prog w base (fun _ => true) true fuel 74 cs = some (d, ps)) (hb : Rows.uptoBulk d ≤ 1048576) : ∃ x : FrI, (FrIE w x cs ∧ FrN x) ∧ FrM x ≤ Rows.uptoBulk d := by
 obtain ⟨parts, rfl, hpl, hf⟩ := fields_of Tryz.underlying74 h hb
 replace hpl : parts.length = 3 := hpl
 match cs, hl, parts, hpl with
 | [y0, y1, y2], _, [d0, d1, d2], _ =>
  obtain ⟨n0, z0, p0, a0, g0, w0⟩ := hf 0 _ rfl
  simp at a0
  subst a0
  obtain ⟨n1, z1, p1, a1, g1, w1⟩ := hf 1 _ rfl
  simp at a1
  subst a1
  obtain ⟨n2, z2, p2, a2, g2, w2⟩ := hf 2 _ rfl
  simp at a2
  subst a2
  clear hf h hb
  simp [ocint, ocint64, ocstring, ocuint8, ocLstring, ocLuint8, ocLRow, ocLFrame, ocLConst, ocLField, ocLMethod] at g0 g1 g2
  obtain ⟨x0, e0, m0, b0⟩ := DataW.trod_int Tryz.underlying3 g0
  simp at e0 m0
  subst e0
  have u0 := bulk_int (H := H) (k := .i64) x0
  rw [← m0.1] at u0
  obtain ⟨x1, r1, u1⟩ := open_list (E := fun w x c => StIE w x c) (M := nStr) Tryz.underlying22 ocstring (by omega) st_each g1 w1
  obtain ⟨x2, r2, u2⟩ := open_list (E := fun w x c => StIE w x c) (M := nStr) Tryz.underlying22 ocstring (by omega) st_each g2 w2
  refine ⟨⟨x0, x1, x2⟩, ⟨⟨_, _, rfl, r1, r2⟩, bounds_i64 b0⟩, ?_⟩
  simp only [FrM, Rows.uptoBulk, Rows.uptoBulkAll]
  omega
set_option maxRecDepth 100000 in
theorem me_each (fuel : Nat) (cs : List Value) (d : DataW H) (ps : List MemPlace) (hl : cs.length = 8) (h : DataW.trod enc Tryz.prog w base (fun _ => true) true fuel 62 cs = some (d, ps)) (hb : Rows.uptoBulk d ≤ 1048576) : ∃ x : MeI, (MeIE w x cs ∧ MeN x) ∧ MeM x ≤ Rows.uptoBulk d := by
 obtain ⟨parts, rfl, hpl, hf⟩ := fields_of Tryz.underlying62 h hb
 replace hpl : parts.length = 8 := hpl
 match cs, hl, parts, hpl with
 | [y0, y1, y2, y3, y4, y5, y6, y7], _, [d0, d1, d2, d3, d4, d5, d6, d7], _ =>
  obtain ⟨n0, z0, p0, a0, g0, w0⟩ := hf 0 _ rfl
  simp at a0
  subst a0
  obtain ⟨n1, z1, p1, a1, g1, w1⟩ := hf 1 _ rfl
  simp at a1
  subst a1
  obtain ⟨n2, z2, p2, a2, g2, w2⟩ := hf 2 _ rfl
  simp at a2
  subst a2
  obtain ⟨n3, z3, p3, a3, g3, w3⟩ := hf 3 _ rfl
  simp at a3
  subst a3
  obtain ⟨n4, z4, p4, a4, g4, w4⟩ := hf 4 _ rfl
  simp at a4
  subst a4
  obtain ⟨n5, z5, p5, a5, g5, w5⟩ := hf 5 _ rfl
  simp at a5
  subst a5
  obtain ⟨n6, z6, p6, a6, g6, w6⟩ := hf 6 _ rfl
  simp at a6
  subst a6
  obtain ⟨n7, z7, p7, a7, g7, w7⟩ := hf 7 _ rfl
  simp at a7
  subst a7
  clear hf h hb
  simp [ocint, ocint64, ocstring, ocuint8, ocLstring, ocLuint8, ocLRow, ocLFrame, ocLConst, ocLField, ocLMethod] at g0 g1 g2 g3 g4 g5 g6 g7
  obtain ⟨x0, e0, m0, b0⟩ := DataW.trod_int Tryz.underlying3 g0
  simp at e0 m0
  subst e0
  have u0 := bulk_int (H := H) (k := .i64) x0
  rw [← m0.1] at u0
  obtain ⟨s1, e1, m1, _⟩ := DataW.trod_string Tryz.underlying9 g1
  obtain ⟨x1, rfl⟩ := tx_any s1
  simp only [Prod.mk.injEq] at m1
  simp at e1
  subst e1
  have u1 := bulk_tx (H := H) x1
  rw [← m1.1] at u1
  unfold nStr at u1
  obtain ⟨s2, e2, m2, _⟩ := DataW.trod_string Tryz.underlying9 g2
  obtain ⟨x2, rfl⟩ := tx_any s2
  simp only [Prod.mk.injEq] at m2
  simp at e2
  subst e2
  have u2 := bulk_tx (H := H) x2
  rw [← m2.1] at u2
  unfold nStr at u2
  obtain ⟨x3, e3, m3, b3⟩ := DataW.trod_int Tryz.underlying3 g3
  simp at e3 m3
  subst e3
  have u3 := bulk_int (H := H) (k := .i64) x3
  rw [← m3.1] at u3
  obtain ⟨x4, e4, m4, b4⟩ := DataW.trod_int Tryz.underlying3 g4
  simp at e4 m4
  subst e4
  have u4 := bulk_int (H := H) (k := .i64) x4
  rw [← m4.1] at u4
  obtain ⟨x5, r5, u5⟩ := open_list (E := fun w x c => ByIE w x c) (M := nByt) Tryz.underlying28 ocuint8 (by omega) by_each g5 w5
  obtain ⟨x6, r6, u6⟩ := open_list (E := fun w x c => RwIE w x c ∧ RwN x) (M := RwM) Tryz.underlying59 ocRow (by omega) rw_each g6 w6
  obtain ⟨r6, q6⟩ := r6.part
  obtain ⟨x7, r7, u7⟩ := open_list (E := fun w x c => FrIE w x c ∧ FrN x) (M := FrM) Tryz.underlying60 ocFrame (by omega) fr_each g7 w7
  obtain ⟨r7, q7⟩ := r7.part
  refine ⟨⟨x0, x1, x2, x3, x4, x5, x6, x7⟩, ⟨⟨_, _, _, rfl, r5, r6, r7⟩, bounds_i64 b0, bounds_i64 b3, bounds_i64 b4, q6, q7⟩, ?_⟩
  simp only [MeM, Rows.uptoBulk, Rows.uptoBulkAll]
  omega
set_option maxRecDepth 100000 in
theorem open_class (fuel : Nat) (cs : List Value) (d : DataW H) (ps : List MemPlace) (hl : cs.length = 7) (h : DataW.trod enc Tryz.prog w base (fun _ => true) true fuel 27 cs = some (d, ps)) (hb : Rows.uptoBulk d ≤ 1048576) : ∃ x : ClI, (ClIV w x (.agg cs.toArray) ∧ ClN x) ∧ ClM x ≤ Rows.uptoBulk d := by
 obtain ⟨parts, rfl, hpl, hf⟩ := fields_of Tryz.underlying27 h hb
 replace hpl : parts.length = 7 := hpl
 match cs, hl, parts, hpl with
 | [y0, y1, y2, y3, y4, y5, y6], _, [d0, d1, d2, d3, d4, d5, d6], _ =>
  obtain ⟨n0, z0, p0, a0, g0, w0⟩ := hf 0 _ rfl
  simp at a0
  subst a0
  obtain ⟨n1, z1, p1, a1, g1, w1⟩ := hf 1 _ rfl
  simp at a1
  subst a1
  obtain ⟨n2, z2, p2, a2, g2, w2⟩ := hf 2 _ rfl
  simp at a2
  subst a2
  obtain ⟨n3, z3, p3, a3, g3, w3⟩ := hf 3 _ rfl
  simp at a3
  subst a3
  obtain ⟨n4, z4, p4, a4, g4, w4⟩ := hf 4 _ rfl
  simp at a4
  subst a4
  obtain ⟨n5, z5, p5, a5, g5, w5⟩ := hf 5 _ rfl
  simp at a5
  subst a5
  obtain ⟨n6, z6, p6, a6, g6, w6⟩ := hf 6 _ rfl
  simp at a6
  subst a6
  clear hf h hb
  simp [ocint, ocint64, ocstring, ocuint8, ocLstring, ocLuint8, ocLRow, ocLFrame, ocLConst, ocLField, ocLMethod] at g0 g1 g2 g3 g4 g5 g6
  obtain ⟨x0, e0, m0, b0⟩ := DataW.trod_int Tryz.underlying3 g0
  simp at e0 m0
  subst e0
  have u0 := bulk_int (H := H) (k := .i64) x0
  rw [← m0.1] at u0
  obtain ⟨s1, e1, m1, _⟩ := DataW.trod_string Tryz.underlying9 g1
  obtain ⟨x1, rfl⟩ := tx_any s1
  simp only [Prod.mk.injEq] at m1
  simp at e1
  subst e1
  have u1 := bulk_tx (H := H) x1
  rw [← m1.1] at u1
  unfold nStr at u1
  obtain ⟨s2, e2, m2, _⟩ := DataW.trod_string Tryz.underlying9 g2
  obtain ⟨x2, rfl⟩ := tx_any s2
  simp only [Prod.mk.injEq] at m2
  simp at e2
  subst e2
  have u2 := bulk_tx (H := H) x2
  rw [← m2.1] at u2
  unfold nStr at u2
  obtain ⟨x3, r3, u3⟩ := open_list (E := fun w x c => StIE w x c) (M := nStr) Tryz.underlying22 ocstring (by omega) st_each g3 w3
  obtain ⟨x4, r4, u4⟩ := open_list (E := fun w x c => CoIE w x c ∧ CoN x) (M := CoM) Tryz.underlying23 ocConst (by omega) co_each g4 w4
  obtain ⟨r4, q4⟩ := r4.part
  obtain ⟨x5, r5, u5⟩ := open_list (E := fun w x c => FlIE w x c ∧ FlN x) (M := FlM) Tryz.underlying24 ocField (by omega) fl_each g5 w5
  obtain ⟨r5, q5⟩ := r5.part
  obtain ⟨x6, r6, u6⟩ := open_list (E := fun w x c => MeIE w x c ∧ MeN x) (M := MeM) Tryz.underlying25 ocMethod (by omega) me_each g6 w6
  obtain ⟨r6, q6⟩ := r6.part
  refine ⟨⟨x0, x1, x2, x3, x4, x5, x6⟩, ⟨⟨_, _, _, _, rfl, r3, r4, r5, r6⟩, bounds_i64 b0, q4, q5, q6⟩, ?_⟩
  simp only [ClM, Rows.uptoBulk, Rows.uptoBulkAll]
  omega
theorem open_bytes20 {t e fuel : Nat} {P : Program} {a : Option Addr} {len cap : Nat} {d : DataW H} {ps : List MemPlace} (ht : P.underlying t = some (.slice e)) (he : P.underlying e = some (.int .u8)) (hc : P.cellsOf e = 1) (hsp : ∀ x, a = some x → x.spot = none)
  (hf : DataW.trod enc P w base (fun _ => true) true fuel t [.slice a len cap] = some (d, ps)) (hb : Rows.uptoBulk d ≤ 1048576) : ∃ L : Bs, RdB w (.slice a len cap) L ∧ L.length ≤ 1048576 := by
 obtain ⟨L, hL⟩ := open_bytes ht he hc hsp hf
 refine ⟨L, hL, ?_⟩
 have hlen : L.length = len := by
  rcases hL with ⟨h1, rfl⟩ | ⟨b, o, c, h1, _⟩
  ·injection h1 with _ h1 _
   exact h1.symm
  ·injection h1 with _ h1 _
   exact h1.symm
 rcases open_ints ht he hc hf with ⟨hcs, hx⟩ | ⟨a', len', cap', zs, hcs, _, hl, hm, hz, hx, hcell, hwz⟩
 ·simp at hcs
  omega
 ·simp at hcs
  obtain ⟨rfl, rfl, rfl⟩ := hcs
  simp only [if_true] at hz
  simp only [Prod.mk.injEq] at hx
  rw [hx.1] at hb
  simp only [Rows.uptoBulk] at hb
  have h2 := bulk_len (lits (H := H) .u8 (zs.take len))
  have h3 : (lits (H := H) .u8 (zs.take len)).length = len := by
   simp [lits]
   omega
  omega
end
theorem sumL_mem {α : Type} {M : α → Nat} {l : List α} {x : α} (h : x ∈ l) : M x ≤ sumL M l := by
 induction l with
 | nil => cases h
 | cons y l ih =>
  simp only [sumL, List.map_cons, List.sum_cons] at ih ⊢
  rcases List.mem_cons.1 h with rfl | h
  ·omega
  ·have := ih h
   omega
theorem sumL_len {α : Type} {M : α → Nat} {b : Nat} (hM : ∀ x, b ≤ M x) (l : List α) : b * l.length ≤ sumL M l := by
 induction l with
 | nil => simp [sumL]
 | cons y l ih =>
  have := hM y
  simp only [sumL, List.map_cons, List.sum_cons, List.length_cons, Nat.mul_add] at ih ⊢
  omega
theorem sumW_le3 {α : Type} {f M : α → Nat} (h : ∀ x, f x ≤ 3 * M x) (l : List α) : (l.map f).sum ≤ 3 * sumL M l := by
 induction l with
 | nil => simp [sumL]
 | cons y l ih =>
  have := h y
  simp only [sumL, List.map_cons, List.sum_cons] at ih ⊢
  omega
theorem wF_le (f : FrI) : wF f ≤ 3 * FrM f := by
 have h1 := sumL_len (M := nStr) (b := 1) (fun x => by unfold nStr; omega) f.locals
 have h2 := sumL_len (M := nStr) (b := 1) (fun x => by unfold nStr; omega) f.stack
 simp only [wF, FrM]
 omega
theorem wB_le (m : MeI) : wB m ≤ 3 * MeM m := by
 have h1 := sumL_len (M := RwM) (b := 5) (fun x => by unfold RwM; omega) m.rows
 have h2 := sumW_le3 wF_le m.frames
 have h3 := sumL_byt m.code
 simp only [wB, wFs, MeM]
 omega
theorem meB_of {m : MeI} (h : MeM m ≤ 1048576) : MeB m := by
 have h1 := sumL_len (M := RwM) (b := 5) (fun x => by unfold RwM; omega) m.rows
 have h2 := sumL_len (M := FrM) (b := 4) (fun x => by unfold FrM; omega) m.frames
 have h3 := sumL_byt m.code
 simp only [MeM] at h
 refine ⟨by omega, by omega, by omega, fun f hf => ?_⟩
 have h4 := sumL_mem (M := FrM) hf
 have h5 := sumL_len (M := nStr) (b := 1) (fun x => by unfold nStr; omega) f.locals
 have h6 := sumL_len (M := nStr) (b := 1) (fun x => by unfold nStr; omega) f.stack
 have h7 : ∀ t ∈ f.locals, t.length ≤ 1048576 := fun t ht => by
  have := sumL_mem (M := nStr) ht
  simp only [nStr, FrM] at this h4
  omega
 have h8 : ∀ t ∈ f.stack, t.length ≤ 1048576 := fun t ht => by
  have := sumL_mem (M := nStr) ht
  simp only [nStr, FrM] at this h4
  omega
 simp only [FrM] at h4
 exact ⟨⟨by omega, fun t ht => by have := h7 t ht; omega⟩, by omega, fun t ht => by have := h8 t ht; omega⟩
theorem clB_of {c : ClI} (h : ClM c ≤ 1048576) : ClB c := by
 simp only [ClM] at h
 have h1 := sumW_le3 (f := wC) (M := CoM) (fun x => by simp only [wC, CoM]; omega) c.pool
 have h2 := sumL_len (M := nStr) (b := 1) (fun x => by unfold nStr; omega) c.ifaces
 have h3 := sumL_len (M := FlM) (b := 4) (fun x => by unfold FlM; omega) c.fields
 have h4 := sumW_le3 wB_le c.methods
 refine ⟨?_, fun x hx => ?_, fun m hm => meB_of ?_⟩
 ·show 18 + (c.pool.map wC).sum + 2 * c.ifaces.length + 6 * c.fields.length + (c.methods.map wB).sum ≤ 1000000000
  omega
 ·have := sumL_mem (M := CoM) hx
  simp only [CoM] at this h
  omega
 ·have := sumL_mem (M := MeM) hm
  omega
set_option maxRecDepth 100000 in
theorem cl_each {H : Type} {enc : TypeId × Value → H} {w : World} {base : Nat} (fuel : Nat) (cs : List Value) (d : DataW H) (ps : List MemPlace) (hl : cs.length = 7) (h : DataW.trod enc Tryz.prog w base (fun _ => true) true fuel 27 cs = some (d, ps)) (hb : Rows.uptoBulk d ≤ 1048576) : ∃ x : ClI, ClIV w x (.agg cs.toArray) ∧ ClB x := by
 obtain ⟨x, hx, hM⟩ := open_class fuel cs d ps hl h hb
 exact ⟨x, hx.1, clB_of (Nat.le_trans hM hb)⟩
end Go.Proofs.YtgihfcimngogfaaGreat
