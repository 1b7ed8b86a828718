/- Class: a class by its name, copied. -/
import Derived.Test.YtkphpihggbbpkaaKinAsk
namespace Go.Proofs.Ytkphpihggbbpkaa
open Go.RowKit Go Go.Maps
set_option linter.unusedVariables false

set_option maxHeartbeats 8000000 in
set_option maxRecDepth 100000 in
theorem class_any (B tb : Nat) (L : List ClI) (s : Bs) (w : World) (hT : Hid (TreeOK B w tb L)) (hs : s.length ≤ maxLen) :
    Calls Try.prog 9 #[.pointer (some ⟨tb, 0, none⟩), .string (tx s)] w fun e w' => ∃ cs ok, e = .returned (.tuple #[.agg (cs : List Value).toArray, .bool ok]) ∧ ClassV (fun g => w.heap.size ≤ g) w' L s cs ok ∧ Below w.heap.size w w' := by
  have hB := (Below.refl w.heap.size w).alloc (Nat.le_refl _) (.cells #[.int .i64 0, .string ⟨#[]⟩, .string ⟨#[]⟩, .slice none 0 0, .slice none 0 0, .slice none 0 0, .slice none 0 0] 35)
  have HB := lhid hB
  have HT1 := lhid (hT.out.below hB)
  have HX0 := lhid (heap_alloc_new w (.cells #[.int .i64 0, .string ⟨#[]⟩, .string ⟨#[]⟩, .slice none 0 0, .slice none 0 0, .slice none 0 0, .slice none 0 0] 35))
  clear hB
  go_enter Try.func9, Try.ntmps9
  go_wp2_with fail
  with_reducible refine (find_any B tb L s _ HT1 hs).mono ?_
  rintro e w1 ⟨v, ok, rfl, hf, hb1⟩
  obtain ⟨x, a, p, b, d, rfl, ⟨r1, r2, r3, r4⟩, hx⟩ := findV_cls hf
  obtain ⟨xa, da, rfl⟩ := r1.shape
  obtain ⟨xp, dp, rfl⟩ := r2.shape
  obtain ⟨xb, db, rfl⟩ := r3.shape
  obtain ⟨xd, dd, rfl⟩ := r4.shape
  have HXX := lhid hx
  have HB1 := lhid (HB.out.trans (Below.less hb1 HB.out.size))
  have HX1 := lhid ((hb1.block _ (heap_lt HX0.out)).trans HX0.out)
  have hB2 := (Below.refl w1.heap.size w1).alloc (Nat.le_refl _) (.cells #[.int .i64 x.flags, .string (tx x.name), .string (tx x.super), .slice xa x.ifaces.length da, .slice xp x.pool.length dp, .slice xb x.fields.length db, .slice xd x.methods.length dd] 35)
  have HB2 := lhid hB2
  have R1 := lhid (r1.below (keptX_st _) hB2)
  have R2 := lhid (r2.below (keptX_co _) hB2)
  have R3 := lhid (r3.below (keptX_fl _) hB2)
  have R4 := lhid (r4.below (keptX_me _) hB2)
  have HX2 := lhid ((hB2.block _ (heap_lt HX1.out)).trans HX1.out)
  have hws := HB1.out.size
  have hlw : w.heap.size < (w1.alloc (.cells #[.int .i64 x.flags, .string (tx x.name), .string (tx x.super), .slice xa x.ifaces.length da, .slice xp x.pool.length dp, .slice xb x.fields.length db, .slice xd x.methods.length dd] 35)).heap.size := heap_lt HX2.out
  clear hf hb1 r1 r2 r3 r4 hx hB2
  go_wp2_with fail
  with_reducible refine (copyClass_any _ x (.slice xa x.ifaces.length da) (.slice xp x.pool.length dp) (.slice xb x.fields.length db) (.slice xd x.methods.length dd) _ R1 R2 R3 R4).mono ?_
  rintro e w2 ⟨cs, rfl, hE, hb2⟩
  have hlt0 := heap_lt HX2.out
  have HX3 := lhid ((hb2.block _ hlt0).trans HX2.out)
  have HB3 := lhid ((HB1.out.trans (Below.less HB2.out hws)).trans (Below.less hb2 (by simp; omega)))
  have hE' := clE_mono (Q := fun g => w.heap.size < g) (fun g hg _ => by simp at hg; omega) _ _ hE
  have HE := lhid hE'
  obtain ⟨a2, p2, b2, d2, rfl, s1, s2, s3, s4⟩ := hE
  obtain ⟨ya, ea, rfl⟩ := s1.shape
  obtain ⟨yp, ep, rfl⟩ := s2.shape
  obtain ⟨yb, eb, rfl⟩ := s3.shape
  obtain ⟨yd, ed, rfl⟩ := s4.shape
  have y0 := heap_cell (i := 0) HX3.out rfl
  have z0 := heap_thaw HX3.out 0
  have y1 := heap_cell (i := 1) HX3.out rfl
  have z1 := heap_thaw HX3.out 1
  have y2 := heap_cell (i := 2) HX3.out rfl
  have z2 := heap_thaw HX3.out 2
  have y3 := heap_cell (i := 3) HX3.out rfl
  have z3 := heap_thaw HX3.out 3
  have y4 := heap_cell (i := 4) HX3.out rfl
  have z4 := heap_thaw HX3.out 4
  have y5 := heap_cell (i := 5) HX3.out rfl
  have z5 := heap_thaw HX3.out 5
  have y6 := heap_cell (i := 6) HX3.out rfl
  have z6 := heap_thaw HX3.out 6
  clear hE' hb2 s1 s2 s3 s4
  go_wp2_with fail
  refine bodyPost_ret (v := .tuple #[.agg #[.int .i64 x.flags, .string (tx x.name), .string (tx x.super), .slice ya x.ifaces.length ea, .slice yp x.pool.length ep, .slice yb x.fields.length eb, .slice yd x.methods.length ed], .bool ok]) (by simp [results, Try.results9, go_sem, y0, y1, y2, y3, y4, y5, y6]) rfl ?_
  refine ⟨[.int .i64 x.flags, .string (tx x.name), .string (tx x.super), .slice ya x.ifaces.length ea, .slice yp x.pool.length ep, .slice yb x.fields.length eb, .slice yd x.methods.length ed], ok, rfl, ⟨x, ?_, HXX.out⟩, below_cells (b := w.heap.size) HB3.out (Nat.le_refl _) 0 [.int .i64 x.flags, .string (tx x.name), .string (tx x.super), .slice ya x.ifaces.length ea, .slice yp x.pool.length ep, .slice yb x.fields.length eb, .slice yd x.methods.length ed]⟩
  exact clE_mono (fun g hg _ => Nat.le_of_lt hg) _ _ (keptX_cl _ _ _ _ _ (fun g hg _ => setCells_other (b := w.heap.size) (by omega) [.int .i64 x.flags, .string (tx x.name), .string (tx x.super), .slice ya x.ifaces.length ea, .slice yp x.pool.length ep, .slice yb x.fields.length eb, .slice yd x.methods.length ed] 0 _) HE.out)
end Go.Proofs.Ytkphpihggbbpkaa
