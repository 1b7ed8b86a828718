/- Texts of this claim, joined: CInsOpen, CFlwQ, CFolOpn. -/
import Derived.Test.YtbkeneadoccodaaJCInsChk5
import Derived.Test.YtbkeneadoccodaaRows
import Derived.ChangeSlices
import Derived.OpenShut
import Derived.WideShapes
import Derived.SizedLaws
import Derived.Deep.Slices
import Derived.Test.YtbkeneadoccodaaM2
/- Arguments that are instructions, functions, lists of numbers, opened: what memory holds of them, under the first form's reach. -/
namespace Go.Proofs.Ytbkeneadoccodaa
open Go.RowKit Go Go.ChangeShapes Go.WideShapes
set_option linter.unusedVariables false
set_option linter.unusedSimpArgs false
def Wgh {H : Type} (P : Program) (t : TypeId) (d : DataW H) : Prop := ∀ n ∈ d.weights P t, n ≤ reachBytes
theorem weights_all {H : Type} {P : Program} {e : TypeId} : ∀ {l : List (DataW H)} {d : DataW H}, d ∈ l → ∀ n ∈ d.weights P e, n ∈ DataW.weightsAll P e l
 | [], _, h, _, _ => by simp at h
 | x :: l, d, h, n, hn => by
  simp only [DataW.weightsAll, List.mem_append]
  rcases List.mem_cons.1 h with rfl | h
  ·exact .inl hn
  ·exact .inr (weights_all h n hn)
theorem wgh_arg {H : Type} {P : Program} {ts : List TypeId} {ds : List (DataW H)} {j : Nat} {t : TypeId} {d : DataW H} (hsz : (DataW.weightsEach P ts ds).all (· ≤ reachBytes) = true) (ht : ts[j]? = some t) (hd : ds[j]? = some d) : Wgh P t d := by
 intro n hn
 have := List.all_eq_true.1 hsz n (DataW.weights_mem_each (j := j) (t := t) (d := d) ht hd n hn)
 simpa using this
theorem tx_any (s : ByteArray) : ∃ t : Bs, s = tx t := ⟨s.data.toList, by cases s; simp [tx]⟩
section
variable {P : Program} {H : Type} {enc : TypeId × Value → H} {w : World} {base fuel : Nat}
theorem fields_of {t : TypeId} {fs : Array Field} {cs : List Value} {d : DataW H} {ps : List MemPlace} (ht : P.underlying t = some (.struct fs)) (h : DataW.trod enc P w base (fun _ => true) true fuel t cs = some (d, ps)) (hw : Wgh P t d) :
  ∃ parts, d = .agg parts ∧ parts.length = fs.size ∧ ∀ (i : Nat) (f : Field), fs[i]? = some f → ∃ n d' ps', parts[i]? = some d' ∧ DataW.trod enc P w base (fun _ => true) true n f.type ((cs.drop f.offset).take (P.cellsOf f.type)) = some (d', ps') ∧ Wgh P f.type d' := by
 obtain ⟨xs, n, _, hx, _, hl, hfs⟩ := DataW.trod_struct ht h
 simp only [Prod.mk.injEq] at hx
 refine ⟨xs.map (·.1), hx.1, by rw [List.length_map, hl], fun i f hf => ?_⟩
 have h1 := hfs i f hf
 have hi : i < xs.length := by
  rw [hl]
  exact (Array.getElem?_eq_some_iff.1 hf).1
 rw [List.getElem?_eq_getElem hi] at h1
 refine ⟨n, (xs[i]).1, (xs[i]).2, by rw [List.getElem?_map, List.getElem?_eq_getElem hi]; rfl, h1, fun m hm => hw m ?_⟩
 rw [hx.1]
 simp only [DataW.weights, ht]
 refine DataW.weights_mem_each (j := i) (t := f.type) (d := (xs[i]).1) ?_ ?_ m hm
 ·rw [List.getElem?_map, Array.getElem?_toList, hf]
  rfl
 ·rw [List.getElem?_map, List.getElem?_eq_getElem hi]
  rfl
def Capd (v : Value) : Prop := ∀ A n cap, v = .slice A n cap → n ≤ cap ∧ cap ≤ maxLen
theorem open_list {α : Type} [Inhabited α] {E : World → α → List Value → Prop} {t e : TypeId} {k b : Nat} {v : Value} {d : DataW H} {ps : List MemPlace} (ht : P.underlying t = some (.slice e)) (ce : P.cellsOf e = k) (hk : 0 < k) (hbe : P.bytesOf e = b) (hb : 0 < b)
  (each : ∀ fuel cs d ps, cs.length = k → DataW.trod enc P w base (fun _ => true) true fuel e cs = some (d, ps) → Wgh P e d → ∃ x : α, E w x cs)
  (h : DataW.trod enc P w base (fun _ => true) true fuel t [v] = some (d, ps)) (hw : Wgh P t d) : ∃ l : List α, RdX Tru k E w v l ∧ l.length * b ≤ 140737488355328 ∧ Capd v := by
 rcases Go.Deep.open_slice ht h with ⟨hcs, hx⟩ | ⟨a, len, cap, m, n, D, Pl, hcs, _, hl, hm, hmm, hx, hel⟩
 ·simp at hcs
  subst hcs
  refine ⟨[], rdX_nil _ _ _ _ _ _ (fun _ => rfl), by simp, fun A n cap e => ?_⟩
  injection e with e1 e2 e3
  subst e2 e3
  exact ⟨Nat.le_refl _, by decide⟩
 ·simp at hcs
  subst hcs
  simp only [if_true] at hmm
  simp only [Prod.mk.injEq] at hx
  have hd := hx.1
  subst hd
  have hlen : len * b ≤ 140737488355328 := by
   have h1 := hw _ (by simp only [DataW.weights, ht]; exact List.mem_cons_self)
   have h2 := reachBytes_lt
   simp only [List.length_map, List.length_range] at h1
   rw [hbe] at h1
   have h3 : len * b ≤ (len + (m - len)) * b := Nat.mul_le_mul_right _ (by omega)
   omega
  have hlen1 : len ≤ 140737488355328 := by
   have h3 : len * 1 ≤ len * b := Nat.mul_le_mul_left _ hb
   omega
  have got : ∀ i, i < len → ∃ x : α, ∃ cs', E w x cs' ∧ w.cells? base (a.add (i * k)) k = some cs' := by
   intro i hi
   obtain ⟨cs', h1, h2⟩ := hel i (by omega)
   rw [ce] at h1
   obtain ⟨_, hcl, _⟩ := World.cells?_some h1
   obtain ⟨x, hx'⟩ := each n cs' (D i) (Pl i) hcl h2 (fun q hq => hw q (by
    simp only [DataW.weights, ht]
    refine List.mem_cons_of_mem _ (List.mem_append.2 (.inl (weights_all ?_ q hq)))
    exact List.mem_map.2 ⟨i, List.mem_range.2 hi, rfl⟩))
   exact ⟨x, cs', hx', h1⟩
  obtain ⟨f, hf⟩ := Go.Deep.choose_lt got
  have hfl : ((List.range len).map f).length = len := by simp
  refine ⟨(List.range len).map f, ⟨some a, cap, by rw [hfl], fun e => (by cases e), by rw [hfl]; omega, fun i x hi => ?_⟩, by rw [hfl]; exact hlen, fun A n' cap' e => ?_⟩
  ·have hil : i < len := by
    have := (List.getElem?_eq_some_iff.1 hi).1
    omega
   rw [List.getElem?_map, List.getElem?_range hil] at hi
   simp only [Option.map_some, Option.some.injEq] at hi
   subst hi
   obtain ⟨cs', hE, hc⟩ := hf i hil
   obtain ⟨_, hcl, hcell⟩ := World.cells?_some hc
   obtain ⟨b', o, sp⟩ := a
   have hs : sp = none := by
    obtain ⟨cs0, _, hc0⟩ := hf 0 (by omega)
    obtain ⟨_, hl0, hcell0⟩ := World.cells?_some hc0
    have h0 := hcell0 0 hk
    rw [List.getElem?_eq_getElem (by omega)] at h0
    have := World.cell?_spot h0
    simpa [Addr.add] using this
   subst hs
   refine ⟨b', o, cs', rfl, trivial, hE, fun j u hj => ?_⟩
   have hjk : j < k := by
    have := (List.getElem?_eq_some_iff.1 hj).1
    omega
   have hc' := hcell j hjk
   rw [Go.Deep.add_add, add_plain, ← Nat.add_assoc] at hc'
   exact hc'.trans hj
  ·injection e with e1 e2 e3
   subst e2 e3
   exact ⟨hl, hm⟩
end
theorem RdX.part {α : Type} {P : Nat → Prop} {k : Nat} {E : World → α → List Value → Prop} {Q : α → Prop} {w : World} {v : Value} {l : List α} (h : RdX P k (fun w x c => E w x c ∧ Q x) w v l) : RdX P k E w v l ∧ ∀ x ∈ l, Q x := by
 obtain ⟨A, cap, h1, h0, h2, h3⟩ := h
 refine ⟨⟨A, cap, h1, h0, h2, fun i a hi => ?_⟩, fun x hx => ?_⟩
 ·obtain ⟨g, o, c, h4, hp, h5, h6⟩ := h3 i a hi
  exact ⟨g, o, c, h4, hp, h5.1, h6⟩
 ·obtain ⟨i, hi, rfl⟩ := List.getElem_of_mem hx
  obtain ⟨g, o, c, h4, hp, h5, h6⟩ := h3 i _ (List.getElem?_eq_getElem hi)
  exact h5.2
structure InQ (x : InI) : Prop where
 op : I64 x.op
 dst : I64 x.dst
 a : I64 x.a
 b : I64 x.b
 c : I64 x.c
 num : I64 x.num
 too : I64 x.too
 ref : x.ref.length ≤ maxLen
 args : x.args.length * 8 ≤ 140737488355328
 nums : ∀ z ∈ x.args, I64 z
structure FuQ2 (f : FuI) : Prop where
 ret : I64 f.ret
 code : ∀ x ∈ f.code, InQ x
 codeL : f.code.length * 96 ≤ 140737488355328
 regsL : f.regs.length * 8 ≤ 140737488355328
 paramsL : f.params.length * 8 ≤ 140737488355328
 rowsL : f.rows.length * 40 ≤ 140737488355328
 rows : ∀ r ∈ f.rows, I64 r.fr ∧ I64 r.too ∧ I64 r.at_
theorem FuQ2.q {f : FuI} (h : FuQ2 f) : FuQ f := ⟨fun x hx => (h.code x hx).num, fun x hx => (h.code x hx).ref⟩
instance : Inhabited InI := ⟨⟨0, 0, 0, 0, 0, 0, 0, [], []⟩⟩
instance : Inhabited RwI := ⟨⟨0, 0, 0, []⟩⟩
theorem ocint : Try.prog.cellsOf 3 = 1 := by kernel_rfl
theorem ocint64 : Try.prog.cellsOf 2 = 1 := by kernel_rfl
theorem ocstring : Try.prog.cellsOf 9 = 1 := by kernel_rfl
theorem ocLint : Try.prog.cellsOf 23 = 1 := by kernel_rfl
theorem ocLRow : Try.prog.cellsOf 25 = 1 := by kernel_rfl
theorem ocLIns : Try.prog.cellsOf 24 = 1 := by kernel_rfl
theorem ocRow : Try.prog.cellsOf 52 = 4 := by kernel_rfl
theorem ocIns : Try.prog.cellsOf 29 = 9 := by kernel_rfl
theorem obint : Try.prog.bytesOf 3 = 8 := by kernel_rfl
theorem obRow : Try.prog.bytesOf 52 = 40 := by kernel_rfl
theorem obIns : Try.prog.bytesOf 29 = 96 := by kernel_rfl
section
variable {H : Type} {enc : TypeId × Value → H} {w : World} {base : Nat}
theorem nu_each (fuel : Nat) (cs : List Value) (d : DataW H) (ps : List MemPlace) (hl : cs.length = 1) (h : DataW.trod enc Try.prog w base (fun _ => true) true fuel 3 cs = some (d, ps)) (hw : Wgh Try.prog 3 d) : ∃ x : Int, NuE w x cs ∧ I64 x := by
 obtain ⟨n, rfl, hx, hwf⟩ := DataW.trod_int Try.underlying3 h
 exact ⟨n, rfl, bounds_i64 hwf⟩
theorem open_nums {fuel : Nat} {v : Value} {d : DataW H} {ps : List MemPlace} (h : DataW.trod enc Try.prog w base (fun _ => true) true fuel 23 [v] = some (d, ps)) (hw : Wgh Try.prog 23 d) : ∃ l : List Int, RdX Tru 1 NuE w v l ∧ (∀ z ∈ l, I64 z) ∧ l.length * 8 ≤ 140737488355328 ∧ Capd v := by
 obtain ⟨l, h1, h2, h3⟩ := open_list (E := fun w x c => NuE w x c ∧ I64 x) Try.underlying23 ocint (by omega) obint (by omega) nu_each h hw
 exact ⟨l, h1.part.1, h1.part.2, h2, h3⟩
set_option maxRecDepth 100000 in
theorem rw_each (fuel : Nat) (cs : List Value) (d : DataW H) (ps : List MemPlace) (hl : cs.length = 4) (h : DataW.trod enc Try.prog w base (fun _ => true) true fuel 52 cs = some (d, ps)) (hw : Wgh Try.prog 52 d) : ∃ x : RwI, RwE w x cs ∧ I64 x.fr ∧ I64 x.too ∧ I64 x.at_ := by
 obtain ⟨parts, rfl, hpl, hf⟩ := fields_of Try.underlying52 h hw
 replace hpl : parts.length = 4 := hpl
 match cs, hl, parts, hpl with
 | [y0, y1, y2, y3], _, [d0, d1, d2, d3], _ =>
  obtain ⟨n0, z0, p0, a0, g0, w0⟩ := hf 0 _ rfl
  simp at a0
  subst a0
  obtain ⟨n1, z1, p1, a1, g1, w1⟩ := hf 1 _ rfl
  simp at a1
  subst a1
  obtain ⟨n2, z2, p2, a2, g2, w2⟩ := hf 2 _ rfl
  simp at a2
  subst a2
  obtain ⟨n3, z3, p3, a3, g3, w3⟩ := hf 3 _ rfl
  simp at a3
  subst a3
  clear hf h hw
  simp [ocint, ocint64, ocstring, ocLint, ocLRow, ocLIns] at g0 g1 g2 g3
  obtain ⟨x0, e0, m0, b0⟩ := DataW.trod_int Try.underlying3 g0
  simp at e0
  subst e0
  obtain ⟨x1, e1, m1, b1⟩ := DataW.trod_int Try.underlying3 g1
  simp at e1
  subst e1
  obtain ⟨x2, e2, m2, b2⟩ := DataW.trod_int Try.underlying3 g2
  simp at e2
  subst e2
  obtain ⟨s3, e3, m3, b3⟩ := DataW.trod_string Try.underlying9 g3
  obtain ⟨x3, rfl⟩ := tx_any s3
  simp at e3
  subst e3
  rw [tx_size] at b3
  exact ⟨⟨x0, x1, x2, x3⟩, rfl, bounds_i64 b0, bounds_i64 b1, bounds_i64 b2⟩
set_option maxRecDepth 100000 in
theorem in_each (fuel : Nat) (cs : List Value) (d : DataW H) (ps : List MemPlace) (hl : cs.length = 9) (h : DataW.trod enc Try.prog w base (fun _ => true) true fuel 29 cs = some (d, ps)) (hw : Wgh Try.prog 29 d) : ∃ x : InI, InE Tru w x cs ∧ InQ x := by
 obtain ⟨parts, rfl, hpl, hf⟩ := fields_of Try.underlying29 h hw
 replace hpl : parts.length = 9 := hpl
 match cs, hl, parts, hpl with
 | [y0, y1, y2, y3, y4, y5, y6, y7, y8], _, [d0, d1, d2, d3, d4, d5, d6, d7, d8], _ =>
  obtain ⟨n0, z0, p0, a0, g0, w0⟩ := hf 0 _ rfl
  simp at a0
  subst a0
  obtain ⟨n1, z1, p1, a1, g1, w1⟩ := hf 1 _ rfl
  simp at a1
  subst a1
  obtain ⟨n2, z2, p2, a2, g2, w2⟩ := hf 2 _ rfl
  simp at a2
  subst a2
  obtain ⟨n3, z3, p3, a3, g3, w3⟩ := hf 3 _ rfl
  simp at a3
  subst a3
  obtain ⟨n4, z4, p4, a4, g4, w4⟩ := hf 4 _ rfl
  simp at a4
  subst a4
  obtain ⟨n5, z5, p5, a5, g5, w5⟩ := hf 5 _ rfl
  simp at a5
  subst a5
  obtain ⟨n6, z6, p6, a6, g6, w6⟩ := hf 6 _ rfl
  simp at a6
  subst a6
  obtain ⟨n7, z7, p7, a7, g7, w7⟩ := hf 7 _ rfl
  simp at a7
  subst a7
  obtain ⟨n8, z8, p8, a8, g8, w8⟩ := hf 8 _ rfl
  simp at a8
  subst a8
  clear hf h hw
  simp [ocint, ocint64, ocstring, ocLint, ocLRow, ocLIns] at g0 g1 g2 g3 g4 g5 g6 g7 g8
  obtain ⟨x0, e0, m0, b0⟩ := DataW.trod_int Try.underlying3 g0
  simp at e0
  subst e0
  obtain ⟨x1, e1, m1, b1⟩ := DataW.trod_int Try.underlying3 g1
  simp at e1
  subst e1
  obtain ⟨x2, e2, m2, b2⟩ := DataW.trod_int Try.underlying3 g2
  simp at e2
  subst e2
  obtain ⟨x3, e3, m3, b3⟩ := DataW.trod_int Try.underlying3 g3
  simp at e3
  subst e3
  obtain ⟨x4, e4, m4, b4⟩ := DataW.trod_int Try.underlying3 g4
  simp at e4
  subst e4
  obtain ⟨x5, e5, m5, b5⟩ := DataW.trod_int Try.underlying2 g5
  simp at e5
  subst e5
  obtain ⟨x6, e6, m6, b6⟩ := DataW.trod_int Try.underlying3 g6
  simp at e6
  subst e6
  obtain ⟨s7, e7, m7, b7⟩ := DataW.trod_string Try.underlying9 g7
  obtain ⟨x7, rfl⟩ := tx_any s7
  simp at e7
  subst e7
  rw [tx_size] at b7
  obtain ⟨x8, r8, n8, l8, _⟩ := open_nums g8 w8
  exact ⟨⟨x0, x1, x2, x3, x4, x5, x6, x7, x8⟩, ⟨_, rfl, r8⟩, bounds_i64 b0, bounds_i64 b1, bounds_i64 b2, bounds_i64 b3, bounds_i64 b4, bounds_i64 b5, bounds_i64 b6, b7, l8, n8⟩
set_option maxRecDepth 100000 in
theorem fu_each (fuel : Nat) (cs : List Value) (d : DataW H) (ps : List MemPlace) (hl : cs.length = 5) (h : DataW.trod enc Try.prog w base (fun _ => true) true fuel 27 cs = some (d, ps)) (hw : Wgh Try.prog 27 d) : ∃ (x : FuI) (a b d e : Value), cs = [a, b, .int .i64 x.ret, d, e] ∧ FuV Tru w x a b d e ∧ FuQ2 x ∧ Capd a ∧ Capd b ∧ Capd d ∧ Capd e := by
 obtain ⟨parts, rfl, hpl, hf⟩ := fields_of Try.underlying27 h hw
 replace hpl : parts.length = 5 := hpl
 match cs, hl, parts, hpl with
 | [y0, y1, y2, y3, y4], _, [d0, d1, d2, d3, d4], _ =>
  obtain ⟨n0, z0, p0, a0, g0, w0⟩ := hf 0 _ rfl
  simp at a0
  subst a0
  obtain ⟨n1, z1, p1, a1, g1, w1⟩ := hf 1 _ rfl
  simp at a1
  subst a1
  obtain ⟨n2, z2, p2, a2, g2, w2⟩ := hf 2 _ rfl
  simp at a2
  subst a2
  obtain ⟨n3, z3, p3, a3, g3, w3⟩ := hf 3 _ rfl
  simp at a3
  subst a3
  obtain ⟨n4, z4, p4, a4, g4, w4⟩ := hf 4 _ rfl
  simp at a4
  subst a4
  clear hf h hw
  simp [ocint, ocint64, ocstring, ocLint, ocLRow, ocLIns] at g0 g1 g2 g3 g4
  obtain ⟨x2, e2, m2, b2⟩ := DataW.trod_int Try.underlying3 g2
  simp at e2
  subst e2
  obtain ⟨x0, r0, _, l0, c0⟩ := open_nums g0 w0
  obtain ⟨x1, r1, _, l1, c1⟩ := open_nums g1 w1
  obtain ⟨x3, r3, l3, c3⟩ := open_list (E := fun w x c => InE Tru w x c ∧ InQ x) Try.underlying24 ocIns (by omega) obIns (by omega) in_each g3 w3
  obtain ⟨r3, q3⟩ := r3.part
  obtain ⟨x4, r4, l4, c4⟩ := open_list (E := fun w x c => RwE w x c ∧ I64 x.fr ∧ I64 x.too ∧ I64 x.at_) Try.underlying25 ocRow (by omega) obRow (by omega) rw_each g4 w4
  obtain ⟨r4, q4⟩ := r4.part
  exact ⟨⟨x0, x1, x2, x3, x4⟩, _, _, _, _, rfl, ⟨r0, r1, r3, r4⟩, ⟨bounds_i64 b2, q3, l3, l0, l1, l4, q4⟩, c0, c1, c3, c4⟩
end
end Go.Proofs.Ytbkeneadoccodaa
/- What an instruction reads and writes are ints, where its fields are. -/
namespace Go.Proofs.Ytbkeneadoccodaa
open Go.RowKit Go
set_option linter.unusedVariables false
set_option linter.unusedSimpArgs false
theorem inq_uses {x : InI} (h : InQ x) : I64 (defI x) ∧ (∀ u ∈ usesI x, I64 u) ∧ x.args.length * 8 ≤ 140737488355328 ∧ (usesI x).length * 8 ≤ 140737488355328 := by
 have ha := h.a
 have hb := h.b
 have hc := h.c
 refine ⟨?_, ?_, h.args, ?_⟩
 ·unfold defI
  split
  ·exact h.dst
  ·unfold I64; omega
 ·intro u hu
  unfold usesI at hu
  split at hu
  ·simp at hu; rw [hu]; exact ha
  ·simp at hu; rcases hu with rfl | rfl <;> assumption
  ·simp at hu; rcases hu with rfl | rfl | rfl <;> assumption
  ·split at hu
   ·simp at hu; rcases hu with rfl | rfl <;> assumption
   ·simp at hu; rw [hu]; exact ha
  ·split at hu
   ·simp at hu; rw [hu]; exact ha
   ·cases hu
  ·exact h.nums u hu
  ·cases hu
 ·have := h.args
  unfold usesI
  split
  ·simp
  ·simp
  ·simp
  ·split <;> simp
  ·split <;> simp
  ·exact this
  ·simp
end Go.Proofs.Ytbkeneadoccodaa
/- An argument that is a slice of int64. -/
namespace Go.Proofs.Ytbkeneadoccodaa
open Go.RowKit Go
set_option linter.unusedVariables false
theorem oclong : Try.prog.cellsOf 2 = 1 := by kernel_rfl
theorem oblong : Try.prog.bytesOf 2 = 8 := by kernel_rfl
section
variable {H : Type} {enc : TypeId × Value → H} {w : World} {base : Nat}
theorem lg_each (fuel : Nat) (cs : List Value) (d : DataW H) (ps : List MemPlace) (hl : cs.length = 1) (h : DataW.trod enc Try.prog w base (fun _ => true) true fuel 2 cs = some (d, ps)) (hw : Wgh Try.prog 2 d) : ∃ x : Int, NuE w x cs ∧ I64 x := by
 obtain ⟨n, rfl, hx, hwf⟩ := DataW.trod_int Try.underlying2 h
 exact ⟨n, rfl, bounds_i64 hwf⟩
theorem open_longs {fuel : Nat} {v : Value} {d : DataW H} {ps : List MemPlace} (h : DataW.trod enc Try.prog w base (fun _ => true) true fuel 35 [v] = some (d, ps)) (hw : Wgh Try.prog 35 d) : ∃ l : List Int, RdX Tru 1 NuE w v l ∧ (∀ z ∈ l, I64 z) ∧ l.length * 8 ≤ 140737488355328 ∧ Capd v := by
 obtain ⟨l, h1, h2, h3⟩ := open_list (E := fun w x c => NuE w x c ∧ I64 x) Try.underlying35 oclong (by omega) oblong (by omega) lg_each h hw
 exact ⟨l, h1.part.1, h1.part.2, h2, h3⟩
end
end Go.Proofs.Ytbkeneadoccodaa
