/- An argument that is an Ask. -/
import Derived.Test.YtkphpihggbbpkaaDoorKinOpen
namespace Go.Proofs.YtkphpihggbbpkaaDoor
open Go.RowKit Go Go.ChangeShapes Go.WideShapes
set_option linter.unusedVariables false
set_option linter.unusedSimpArgs false

structure AskI where
  cls : Bs
  name : Bs
  desc : Bs
  typ : Bs
  want : Bs
def AskE (_ : World) (x : AskI) (c : List Value) : Prop := c = [.string (tx x.cls), .string (tx x.name), .string (tx x.desc), .string (tx x.typ), .string (tx x.want)]
def AskQ (x : AskI) : Prop := T20 x.cls ∧ T20 x.name ∧ T20 x.desc ∧ T20 x.typ ∧ T20 x.want
instance : Inhabited AskI := ⟨⟨[], [], [], [], []⟩⟩
theorem ocAsk : Tryd.prog.cellsOf 24 = 5 := by kernel_rfl
section
variable {H : Type} {enc : TypeId × Value → H} {w : World} {base : Nat}
set_option maxRecDepth 100000 in
theorem as_each (fuel : Nat) (cs : List Value) (d : DataW H) (ps : List MemPlace) (hl : cs.length = 5) (h : DataW.trod enc Tryd.prog w base (fun _ => true) true fuel 24 cs = some (d, ps)) (hb : Rows.uptoBulk d ≤ 1048576) : ∃ x : AskI, AskE w x cs ∧ AskQ x := by
  obtain ⟨parts, rfl, hpl, hf⟩ := fields_of Tryd.underlying24 h hb
  replace hpl : parts.length = 5 := hpl
  match cs, hl, parts, hpl with
  | [y0, y1, y2, y3, y4], _, [d0, d1, d2, d3, d4], _ =>
    obtain ⟨n0, z0, p0, a0, g0, w0⟩ := hf 0 _ rfl
    simp at a0
    subst a0
    obtain ⟨n1, z1, p1, a1, g1, w1⟩ := hf 1 _ rfl
    simp at a1
    subst a1
    obtain ⟨n2, z2, p2, a2, g2, w2⟩ := hf 2 _ rfl
    simp at a2
    subst a2
    obtain ⟨n3, z3, p3, a3, g3, w3⟩ := hf 3 _ rfl
    simp at a3
    subst a3
    obtain ⟨n4, z4, p4, a4, g4, w4⟩ := hf 4 _ rfl
    simp at a4
    subst a4
    clear hf h hb
    simp [ocint, ocint64, ocstring, ocuint8, ocLstring, ocLuint8, ocLRow, ocLFrame, ocLConst, ocLField, ocLMethod] at g0 g1 g2 g3 g4
    obtain ⟨s0, e0, m0, _⟩ := DataW.trod_string Tryd.underlying9 g0
    obtain ⟨x0, rfl⟩ := tx_any s0
    simp only [Prod.mk.injEq] at m0
    simp at e0
    subst e0
    rw [m0.1] at w0
    obtain ⟨s1, e1, m1, _⟩ := DataW.trod_string Tryd.underlying9 g1
    obtain ⟨x1, rfl⟩ := tx_any s1
    simp only [Prod.mk.injEq] at m1
    simp at e1
    subst e1
    rw [m1.1] at w1
    obtain ⟨s2, e2, m2, _⟩ := DataW.trod_string Tryd.underlying9 g2
    obtain ⟨x2, rfl⟩ := tx_any s2
    simp only [Prod.mk.injEq] at m2
    simp at e2
    subst e2
    rw [m2.1] at w2
    obtain ⟨s3, e3, m3, _⟩ := DataW.trod_string Tryd.underlying9 g3
    obtain ⟨x3, rfl⟩ := tx_any s3
    simp only [Prod.mk.injEq] at m3
    simp at e3
    subst e3
    rw [m3.1] at w3
    obtain ⟨s4, e4, m4, _⟩ := DataW.trod_string Tryd.underlying9 g4
    obtain ⟨x4, rfl⟩ := tx_any s4
    simp only [Prod.mk.injEq] at m4
    simp at e4
    subst e4
    rw [m4.1] at w4
    exact ⟨⟨x0, x1, x2, x3, x4⟩, rfl, bulk_tx _ w0, bulk_tx _ w1, bulk_tx _ w2, bulk_tx _ w3, bulk_tx _ w4⟩
end
end Go.Proofs.YtkphpihggbbpkaaDoor
