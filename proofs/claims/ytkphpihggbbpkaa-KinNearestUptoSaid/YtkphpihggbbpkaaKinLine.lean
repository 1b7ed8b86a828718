/- line: a class, its parent, the parent's and so on. -/
import Derived.Test.YtkphpihggbbpkaaKinRoot
import Derived.Test.YtkphpihggbbpkaaKinAsk
namespace Go.Proofs.Ytkphpihggbbpkaa
open Go.RowKit Go Go.Maps
set_option linter.unusedVariables false

/-- A class, its parent, the parent's and so on. -/
inductive Lin (L : List ClI) : Bs → List Bs → Prop
  | stop {s : Bs} : findC L s = none → Lin L s []
  | more {s : Bs} {c : ClI} {t : List Bs} : findC L s = some c → Lin L c.super t → Lin L s (s :: t)
def lenV : Value → Nat
  | .slice _ n _ => n
  | _ => 0
def onV : Value → Nat
  | .bool true => 1
  | _ => 0
def lineV (l : List Bs) : List Value := l.map fun s => .string (tx s)
theorem rows_lineV (w : World) : ∀ l : List Bs, RowsE 1 (StE w) l (lineV l)
  | [] => rowsE_nil _ _
  | s :: l => by
    have := (rowsE_one (k := 1) (E := StE w) (a := s) (c := [.string (tx s)]) rfl rfl).app (rows_lineV w l)
    simpa [lineV] using this
/-- What a line's walk keeps: those that were met, and where it stands. -/
structure LinAt (L : List ClI) (s0 s : Bs) (acc : List Bs) : Prop where
  on : ∀ t, Lin L s t → Lin L s0 (acc ++ t)
  once : acc.Nodup
  there : ∀ z ∈ acc, z ∈ names L
  up : findC L s ≠ none → ∀ z ∈ acc, ∃ n ∈ nxt L z, Rch L n s
theorem LinAt.start (L : List ClI) (s0 : Bs) : LinAt L s0 s0 [] := ⟨fun _ h => h, List.nodup_nil, fun z h => (by cases h), fun _ z h => (by cases h)⟩
theorem LinAt.len {L : List ClI} {s0 s : Bs} {acc : List Bs} (h : LinAt L s0 s acc) : acc.length ≤ (names L).length := nodup_len _ _ h.once h.there
theorem LinAt.next {L : List ClI} (hN : ∀ z ∈ names L, ¬ Circ L z) {s0 s : Bs} {acc : List Bs} {c : ClI} (h : LinAt L s0 s acc) (hc : findC L s = some c) : LinAt L s0 c.super (acc ++ [s]) := by
  have hne : findC L s ≠ none := by rw [hc]; simp
  have hnot : s ∉ acc := fun hm => hN s (find_names hc) (h.up hne s hm)
  refine ⟨fun t ht => ?_, ?_, fun z hz => ?_, fun hs z hz => ?_⟩
  · rw [List.append_assoc]
    exact h.on _ (.more hc ht)
  · rw [List.nodup_append]
    refine ⟨h.once, by simp, fun a ha b hb e => ?_⟩
    simp at hb
    subst hb
    subst e
    exact hnot ha
  · rcases List.mem_append.1 hz with hz | hz
    · exact h.there z hz
    · simp at hz
      rw [hz]
      exact find_names hc
  · have hsn : c.super ∈ nxt L s := super_in hc (Option.isSome_iff_ne_none.2 hs)
    rcases List.mem_append.1 hz with hz | hz
    · obtain ⟨n, hn, hr⟩ := h.up hne z hz
      exact ⟨n, hn, hr.trans (.step hsn (.refl _))⟩
    · simp at hz
      rw [hz]
      exact ⟨c.super, hsn, .refl _⟩
set_option maxHeartbeats 16000000 in
set_option maxRecDepth 100000 in
theorem line_any (B tb : Nat) (L : List ClI) (s0 : Bs) (w : World) (hT : Hid (TreeOK B w tb L)) (hs : s0.length ≤ maxLen) (hL : L.length ≤ 100) (hSh : Hid (Short L)) (hN : Hid (∀ z ∈ names L, ¬ Circ L z)) :
    Calls Try.prog 28 #[.pointer (some ⟨tb, 0, none⟩), .string (tx s0)] w fun e w' => ∃ v l, e = .returned v ∧ RdX (fun g => w.heap.size ≤ g) 1 StE w' v l ∧ Lin L s0 l ∧ l.length ≤ 100 ∧ (∀ z ∈ l, z ∈ names L) ∧ Below w.heap.size w w' := by
  obtain ⟨i0, hi, hz0, hz1, hz2⟩ := info_parts info_st
  have hNL : (names L).length ≤ 100 := by unfold names; rw [List.length_map]; exact hL
  go_enter Try.func28, Try.ntmps28
  go_wp2_with fail
  with_reducible refine (find_any B tb L s0 w hT hs).mono ?_
  rintro e w1 ⟨v, ok, rfl, hv, hb1⟩
  obtain ⟨x, xa, xp, xb, xd, rfl, ⟨r1, r2, r3, r4⟩, hx⟩ := findV_cls hv
  obtain ⟨xa, da, rfl⟩ := r1.shape
  obtain ⟨xp, dp, rfl⟩ := r2.shape
  obtain ⟨xb, db, rfl⟩ := r3.shape
  obtain ⟨xd, dd, rfl⟩ := r4.shape
  have HX1 : Hid ((findC L s0 = none ∧ ok = false) ∨ (findC L s0 = some x ∧ ok = true)) := lhid (hx.imp (fun h => ⟨h.1, h.2.1⟩) id)
  have HB1 := lhid (hb1.alloc hb1.size (.cells #[.int .i64 x.flags, .string (tx x.name), .string (tx x.super), .slice xa x.ifaces.length da, .slice xp x.pool.length dp, .slice xb x.fields.length db, .slice xd x.methods.length dd] 35))
  have HG1 := lhid (heap_alloc_new w1 (.cells #[.int .i64 x.flags, .string (tx x.name), .string (tx x.super), .slice xa x.ifaces.length da, .slice xp x.pool.length dp, .slice xb x.fields.length db, .slice xd x.methods.length dd] 35))
  have hg1 := hb1.size
  clear hv r1 r2 r3 r4 hx hb1
  go_wp2_with fail
  generalize w1.alloc (.cells #[.int .i64 x.flags, .string (tx x.name), .string (tx x.super), .slice xa x.ifaces.length da, .slice xp x.pool.length dp, .slice xb x.fields.length db, .slice xd x.methods.length dd] 35) = w2 at *
  go_loopw [5, 6, 7] (fun v pc okv wr => ∃ (acc : List Bs) (s : Bs) (g : Nat) (x : ClI) (xa xp xb xd : Option Addr) (da dp db dd : Nat) (b : Bool), pc = .pointer (some ⟨g, 0, none⟩) ∧ okv = .bool b ∧ w.heap.size ≤ g ∧ Hid (wr.heap[g]? = some (.cells #[.int .i64 x.flags, .string (tx x.name), .string (tx x.super), .slice xa x.ifaces.length da, .slice xp x.pool.length dp, .slice xb x.fields.length db, .slice xd x.methods.length dd] 35 (0, 0))) ∧ Hid ((findC L s = none ∧ b = false) ∨ (findC L s = some x ∧ b = true)) ∧ Hid (LinAt L s0 s acc) ∧ Hid (wr.ownsRow w.heap.size 9 1 v acc.length (lineV acc)) ∧ Hid (∀ k, v.ownBlock = some k → k ≠ g) ∧ Hid (Below w.heap.size w wr)) (fun v _ okv _ => onV okv * (1 + 100 - lenV v))
  case atStart => exact ⟨[], s0, _, x, xa, xp, xb, xd, da, dp, db, dd, ok, rfl, rfl, hg1, HG1, HX1, lhid (.start L s0), lhid (World.ownsRow_nil _ _ _ _), lhid (fun k e => (by cases e)), HB1⟩
  case round =>
    obtain ⟨acc, s, g, x, xa, xp, xb, xd, da, dp, db, dd, b, rfl, rfl, hg, HG, HX, HA, HV, HK, HB⟩ := hrel
    have hbs := HB.out.size
    have hal := HA.out.len
    obtain ⟨A, cA, rfl⟩ := own_shape HV.out
    cases b with
    | false =>
      have hf : findC L s = none := by
        rcases HX.out with h | h
        · exact h.1
        · exact absurd h.2 (by decide)
      have hlin := HA.out.on [] (.stop hf)
      rw [List.append_nil] at hlin
      have HLI := lhid hlin
      clear hf hlin
      go_wp2_with fail
      go_ret
      have hrd := (rdX_own (E := StE) (l := acc) HV.out (by omega) (rows_lineV _ _)).any (Q := fun g => w.heap.size ≤ g) (fun g hg => hg.1)
      have hacc : acc.length ≤ 100 := by omega
      exact ⟨_, by rfl, acc, hrd, HLI.out, hacc, HA.out.there, HB.out⟩
    | true =>
      have hf : findC L s = some x := by
        rcases HX.out with h | h
        · exact absurd h.2 (by decide)
        · exact h.1
      have hnm := (findC_some hf).2
      have hsup := short_super hSh.out (findC_some hf).1
      have HN2 := lhid (HA.out.next hN.out hf)
      have hgl := heap_lt HG.out
      have HNM := lhid hnm
      have x1 := heap_cell (i := 1) HG.out rfl
      clear hf hnm
      go_wp2_with (at_builtin; refine wpList_append_own _ rfl _ _ 29 rfl w.heap.size 9 i0 (.string ⟨#[]⟩) 1 16 Try.underlying29 hi hz0 hz1 hz2 rfl (by decide) _ acc.length (lineV acc) rfl (HV.out.alloc _) ⟨wr.heap.size, 0, none⟩ 1 1 [.string (tx x.name)] rfl rfl (new_cells _ _ _) ?a2 ?a3 ?a4 ?a5 ?_)
      case a2 => rfl
      case a3 => unfold maxLen; omega
      case a4 => omega
      case a5 => first | omega | (simp; omega)
      intro v2 w2 hown2 hgrow hnil
      have hHB2 : Below w.heap.size w w2 := Below.grown (HB.out.alloc hbs _) hgrow (by simp; omega) (own_lt HV.out)
      have HB2 := lhid hHB2
      have hG2 : w2.heap[g]? = some (.cells #[.int .i64 x.flags, .string (tx x.name), .string (tx x.super), .slice xa x.ifaces.length da, .slice xp x.pool.length dp, .slice xb x.fields.length db, .slice xd x.methods.length dd] 35 (0, 0)) := by
        have h1 := Below.heap_alloc wr (.cells #[.string (tx x.name)] 9) g hgl
        exact (hgrow.block g (by simp; omega) (fun e => HK.out g e.symm rfl)).trans (h1.trans HG.out)
      have HG2 := lhid hG2
      have hown3 : w2.ownsRow w.heap.size 9 1 v2 (acc ++ [s]).length (lineV (acc ++ [s])) := by
        rw [List.length_append, show lineV (acc ++ [s]) = lineV acc ++ [.string (tx s)] by simp [lineV], ← HNM.out]
        exact hown2
      have HV2 := lhid hown3
      have hw2 := HB2.out.size
      have hg2 := heap_lt HG2.out
      clear hown2 hgrow hnil x1
      obtain ⟨A2, cA2, rfl⟩ := own_shape HV2.out
      have y0 := heap_cell (i := 0) HG2.out rfl
      have y1 := heap_cell (i := 1) HG2.out rfl
      have y2 := heap_cell (i := 2) HG2.out rfl
      have y3 := heap_cell (i := 3) HG2.out rfl
      have y4 := heap_cell (i := 4) HG2.out rfl
      have y5 := heap_cell (i := 5) HG2.out rfl
      have y6 := heap_cell (i := 6) HG2.out rfl
      have hT3 := hT.out.below ((Below.less HB2.out (Nat.le_refl _)).alloc hw2 (.cells #[.int .i64 x.flags, .string (tx x.name), .string (tx x.super), .slice xa x.ifaces.length da, .slice xp x.pool.length dp, .slice xb x.fields.length db, .slice xd x.methods.length dd] 35))
      have HT3 := lhid hT3
      have HB3 := lhid (HB2.out.alloc hw2 (.cells #[.int .i64 x.flags, .string (tx x.name), .string (tx x.super), .slice xa x.ifaces.length da, .slice xp x.pool.length dp, .slice xb x.fields.length db, .slice xd x.methods.length dd] 35))
      have HY3 := lhid (heap_alloc_new w2 (.cells #[.int .i64 x.flags, .string (tx x.name), .string (tx x.super), .slice xa x.ifaces.length da, .slice xp x.pool.length dp, .slice xb x.fields.length db, .slice xd x.methods.length dd] 35))
      have HA3 : Hid (∀ k, k < w2.heap.size → (w2.alloc (.cells #[.int .i64 x.flags, .string (tx x.name), .string (tx x.super), .slice xa x.ifaces.length da, .slice xp x.pool.length dp, .slice xb x.fields.length db, .slice xd x.methods.length dd] 35)).heap[k]? = w2.heap[k]?) := lhid (fun k hk => Below.heap_alloc _ _ _ hk)
      clear hT3
      go_wp2_with fail
      generalize w2.alloc (.cells #[.int .i64 x.flags, .string (tx x.name), .string (tx x.super), .slice xa x.ifaces.length da, .slice xp x.pool.length dp, .slice xb x.fields.length db, .slice xd x.methods.length dd] 35) = w3 at *
      have hw3 := HB3.out.size
      have hy3 := heap_lt HY3.out
      with_reducible refine (find_any B tb L x.super w3 HT3 hsup).mono ?_
      rintro e w4 ⟨v4, ok4, rfl, hv4, hb4⟩
      obtain ⟨u, ua, up, ub, ud, rfl, ⟨r1, r2, r3, r4⟩, hu⟩ := findV_cls hv4
      obtain ⟨ua, ea, rfl⟩ := r1.shape
      obtain ⟨up, ep, rfl⟩ := r2.shape
      obtain ⟨ub, eb, rfl⟩ := r3.shape
      obtain ⟨ud, ed, rfl⟩ := r4.shape
      have HU : Hid ((findC L x.super = none ∧ ok4 = false) ∨ (findC L x.super = some u ∧ ok4 = true)) := lhid (hu.imp (fun h => ⟨h.1, h.2.1⟩) id)
      have HB4 := lhid (HB3.out.trans (Below.less hb4 hw3))
      have HY4 := lhid ((hb4.block _ hy3).trans HY3.out)
      have HV4 := lhid (own_of HV2.out fun g hg => (hb4.block g (by have := (HV2.out.lt g hg).2; omega)).trans (HA3.out g (HV2.out.lt g hg).2))
      have hy2 : w2.heap.size < w3.heap.size := hy3
      clear hv4 r1 r2 r3 r4 hu hb4 y0 y1 y2 y3 y4 y5 y6
      have z0 := heap_thaw HY4.out 0
      have z1 := heap_thaw HY4.out 1
      have z2 := heap_thaw HY4.out 2
      have z3 := heap_thaw HY4.out 3
      have z4 := heap_thaw HY4.out 4
      have z5 := heap_thaw HY4.out 5
      have z6 := heap_thaw HY4.out 6
      have y0 := heap_cell (i := 0) HY4.out rfl
      have y1 := heap_cell (i := 1) HY4.out rfl
      have y2 := heap_cell (i := 2) HY4.out rfl
      have y3 := heap_cell (i := 3) HY4.out rfl
      have y4 := heap_cell (i := 4) HY4.out rfl
      have y5 := heap_cell (i := 5) HY4.out rfl
      have y6 := heap_cell (i := 6) HY4.out rfl
      have HG7 : Hid ((((((((w4.setCell ⟨w2.heap.size, 0, none⟩ (.int .i64 u.flags)).setCell ⟨w2.heap.size, 1, none⟩ (.string (tx u.name))).setCell ⟨w2.heap.size, 2, none⟩ (.string (tx u.super))).setCell ⟨w2.heap.size, 3, none⟩ (.slice ua u.ifaces.length ea)).setCell ⟨w2.heap.size, 4, none⟩ (.slice up u.pool.length ep)).setCell ⟨w2.heap.size, 5, none⟩ (.slice ub u.fields.length eb)).setCell ⟨w2.heap.size, 6, none⟩ (.slice ud u.methods.length ed)).heap[w2.heap.size]? = some (.cells #[.int .i64 u.flags, .string (tx u.name), .string (tx u.super), .slice ua u.ifaces.length ea, .slice up u.pool.length ep, .slice ub u.fields.length eb, .slice ud u.methods.length ed] 35 (0, 0))) := lhid (by
        have := (heap_set (i := 6) (heap_set (i := 5) (heap_set (i := 4) (heap_set (i := 3) (heap_set (i := 2) (heap_set (i := 1) (heap_set (i := 0) HY4.out (.int .i64 u.flags)) (.string (tx u.name))) (.string (tx u.super))) (.slice ua u.ifaces.length ea)) (.slice up u.pool.length ep)) (.slice ub u.fields.length eb)) (.slice ud u.methods.length ed))
        simpa using this)
      have HV7 : Hid ((((((((w4.setCell ⟨w2.heap.size, 0, none⟩ (.int .i64 u.flags)).setCell ⟨w2.heap.size, 1, none⟩ (.string (tx u.name))).setCell ⟨w2.heap.size, 2, none⟩ (.string (tx u.super))).setCell ⟨w2.heap.size, 3, none⟩ (.slice ua u.ifaces.length ea)).setCell ⟨w2.heap.size, 4, none⟩ (.slice up u.pool.length ep)).setCell ⟨w2.heap.size, 5, none⟩ (.slice ub u.fields.length eb)).setCell ⟨w2.heap.size, 6, none⟩ (.slice ud u.methods.length ed)).ownsRow w.heap.size 9 1 (.slice A2 (acc ++ [s]).length cA2) (acc ++ [s]).length (lineV (acc ++ [s]))) := lhid (own_of HV4.out fun g hg => by
        have hne : g ≠ w2.heap.size := fun e => by have := (HV2.out.lt g hg).2; omega
        repeat rw [Below.heap_setCell _ _ _ _ hne])
      have HB7 := lhid (((((((HB4.out.setCell (p := ⟨w2.heap.size, 0, none⟩) hw2 (.int .i64 u.flags)).setCell (p := ⟨w2.heap.size, 1, none⟩) hw2 (.string (tx u.name))).setCell (p := ⟨w2.heap.size, 2, none⟩) hw2 (.string (tx u.super))).setCell (p := ⟨w2.heap.size, 3, none⟩) hw2 (.slice ua u.ifaces.length ea)).setCell (p := ⟨w2.heap.size, 4, none⟩) hw2 (.slice up u.pool.length ep)).setCell (p := ⟨w2.heap.size, 5, none⟩) hw2 (.slice ub u.fields.length eb)).setCell (p := ⟨w2.heap.size, 6, none⟩) hw2 (.slice ud u.methods.length ed))
      have HK7 : Hid (∀ k, (Value.slice A2 (acc ++ [s]).length cA2).ownBlock = some k → k ≠ w2.heap.size) := lhid fun k hk e => by have := (HV2.out.lt k hk).2; omega
      clear HY4
      go_wp2_with fail
      go_roundw
      case rel => exact ⟨acc ++ [s], x.super, w2.heap.size, u, ua, up, ub, ud, ea, ep, eb, ed, ok4, rfl, rfl, hw2, HG7, HU, HN2, by simpa using HV7, by simpa using HK7, HB7⟩
      case measure =>
        have := HN2.out.len
        simp at this
        cases ok4
        · simp [onV, lenV]; omega
        · simp [onV, lenV]; omega
end Go.Proofs.Ytkphpihggbbpkaa
