/- Field: the field that a class's name and a field's lead to. -/
import Derived.Test.YtkphpihggbbpkaaKinLine
import Derived.Deep.RegionLaw
import Derived.BigRegion
namespace Go.Proofs.Ytkphpihggbbpkaa
open Go.RowKit Go Go.Maps
set_option linter.unusedVariables false

def fldB (n d : Bs) (f : FlI) : Bool := decide (f.name = n) && decide (f.desc = d)
/-- A class's own field. -/
def fieldIn (L : List ClI) (n d o : Bs) : Option (Bs × FlI) :=
  match findC L o with
  | none => none
  | some c => (c.fields.find? (fldB n d)).map fun f => (o, f)
/-- What Field answers of a line of classes. -/
def FieldIs (L : List ClI) (n d : Bs) (l : List Bs) (o : Bs) (f : FlI) (ok : Bool) : Prop :=
  (l.findSome? (fieldIn L n d) = none ∧ o = [] ∧ f = ⟨0, [], []⟩ ∧ ok = false) ∨ (l.findSome? (fieldIn L n d) = some (o, f) ∧ ok = true)
theorem findSome_take {α β : Type} {p : α → Option β} {l : List α} {k : Nat} {x : α} (h : (l.take k).findSome? p = none) (hx : l[k]? = some x) (hp : p x = none) : (l.take (k + 1)).findSome? p = none := by
  rw [List.take_add_one, hx, List.findSome?_append, h]
  simp [hp]
theorem findSome_hit {α β : Type} {p : α → Option β} {l : List α} {k : Nat} {x : α} {y : β} (h : (l.take k).findSome? p = none) (hx : l[k]? = some x) (hp : p x = some y) : l.findSome? p = some y := by
  have e : l = l.take k ++ x :: l.drop (k + 1) := by
    have hlt := (List.getElem?_eq_some_iff.1 hx).1
    have hxe : l[k] = x := (List.getElem?_eq_some_iff.1 hx).2
    have h1 := List.drop_eq_getElem_cons hlt
    rw [hxe] at h1
    rw [← h1, List.take_append_drop]
  rw [e, List.findSome?_append, h]
  simp [hp]
theorem find_take {α : Type} {p : α → Bool} {l : List α} {k : Nat} {x : α} (h : (l.take k).find? p = none) (hx : l[k]? = some x) (hp : p x = false) : (l.take (k + 1)).find? p = none := by
  rw [List.take_add_one, hx, List.find?_append, h]
  simp [hp]
theorem find_hit {α : Type} {p : α → Bool} {l : List α} {k : Nat} {x : α} (h : (l.take k).find? p = none) (hx : l[k]? = some x) (hp : p x = true) : l.find? p = some x := by
  have e : l = l.take k ++ x :: l.drop (k + 1) := by
    have hlt := (List.getElem?_eq_some_iff.1 hx).1
    have hxe : l[k] = x := (List.getElem?_eq_some_iff.1 hx).2
    have h1 := List.drop_eq_getElem_cons hlt
    rw [hxe] at h1
    rw [← h1, List.take_append_drop]
  rw [e, List.find?_append, h]
  simp [hp]
/-- What Field leaves. -/
def FieldOut (L : List ClI) (s n d : Bs) (w : World) (e : Ending) (w' : World) : Prop :=
  ∃ o f ok, e = .returned (.tuple #[.string (tx o), .agg #[.int .i64 f.flags, .string (tx f.name), .string (tx f.desc)], .bool ok]) ∧ (∃ l, Lin L s l ∧ FieldIs L n d l o f ok) ∧ Below w.heap.size w w'
theorem run_fields' (a : Int) (n s : ByteArray) (A B C D : Option Addr) (l1 l2 l3 l4 c1 c2 c3 c4 : Nat) (w : World) : (Instr.field 35 (.agg #[.int .i64 a, .string n, .string s, .slice A l1 c1, .slice B l2 c2, .slice C l3 c3, .slice D l4 c4]) 5).run Try.prog w = .ok (.slice C l3 c3) w := by kernel_rfl
set_option maxHeartbeats 16000000 in
set_option maxRecDepth 100000 in
theorem field_any (B tb : Nat) (L : List ClI) (s n d : Bs) (w : World) (hT : Hid (TreeOK B w tb L)) (hs : s.length ≤ maxLen) (hL : L.length ≤ 100) (hSh : Hid (Short L)) (hN : Hid (∀ z ∈ names L, ¬ Circ L z)) :
    Calls Try.prog 12 #[.pointer (some ⟨tb, 0, none⟩), .string (tx s), .string (tx n), .string (tx d)] w (FieldOut L s n d w) := by
  have HB0 := lhid ((Below.refl w.heap.size w).alloc (Nat.le_refl _) (.cells #[.int .i64 0, .string ⟨#[]⟩, .string ⟨#[]⟩] 44))
  have HX0 := lhid (heap_alloc_new w (.cells #[.int .i64 0, .string ⟨#[]⟩, .string ⟨#[]⟩] 44))
  have HT0 := lhid (hT.out.below HB0.out)
  go_enter Try.func12, Try.ntmps12
  go_wp2_with fail
  generalize w.alloc (.cells #[.int .i64 0, .string ⟨#[]⟩, .string ⟨#[]⟩] 44) = w0 at *
  have hw0 := HB0.out.size
  with_reducible refine (line_any B tb L s w0 HT0 hs hL hSh hN).mono ?_
  rintro e w1 ⟨v, l, rfl, hr1, hlin, hl100, hin, hb1⟩
  obtain ⟨A, cap, rfl⟩ := hr1.shape
  have HR1 := lhid hr1
  have HLI := lhid hlin
  have HIN := lhid hin
  have HB1 := lhid (HB0.out.trans (Below.less hb1 hw0))
  have hX1 := (hb1.block _ (heap_lt HX0.out)).trans HX0.out
  have HX1 := lhid hX1
  have hT1 := HT0.out.below hb1
  have HT1 := lhid hT1
  have hw1 := HB1.out.size
  have hlt1 := heap_lt hX1
  clear hr1 hlin hin hb1 hX1 hT1
  go_wp2_with fail
  go_loopw [19] (fun i wr => ∃ k : Nat, i = .int .i64 k ∧ k ≤ l.length ∧ Hid ((l.take k).findSome? (fieldIn L n d) = none) ∧ Hid (Below w1.heap.size w1 wr)) (fun i _ => l.length - (intOf i).toNat)
  case atStart => exact ⟨0, rfl, Nat.zero_le _, lhid rfl, lhid (Below.refl _ _)⟩
  case round =>
    obtain ⟨k, rfl, hk, HFN, HB⟩ := hrel
    have hbs := HB.out.size
    by_cases hlt : k < l.length
    · obtain ⟨x, hx⟩ : ∃ x, l[k]? = some x := ⟨_, List.getElem?_eq_getElem hlt⟩
      have hxn := HIN.out x (List.mem_of_getElem? hx)
      have hxl := short_name hSh.out hxn
      have HXA := lhid hx
      obtain ⟨ga, oa, cc, rfl, _, hE, hc⟩ := (HR1.out.below (keptX_st _) HB.out).at' hx
      have c0 : wr.cell? ⟨ga, oa + k, none⟩ = some (.string (tx x)) := by
        have := hc 0 (.string (tx x)) (by rw [show cc = [.string (tx x)] from hE]; rfl)
        rwa [Nat.mul_one] at this
      have k3 : (k : Int) < l.length := by omega
      have hTr := HT1.out.below HB.out
      obtain ⟨⟨cb, ab, nn, v0, g1, g2, g3, g4⟩, g6⟩ := hTr
      have t1 := heap_cell (i := 1) g1 rfl
      obtain ⟨ff, hm0, hfs⟩ := g3
      have HM := lhid hm0
      obtain ⟨c, hc⟩ := names_find hxn
      obtain ⟨u, hfu, cy, rfl, a', p', b', d', rfl, r1, r2, r3, r4⟩ := (hfs x).2 c hc
      obtain ⟨ya, da, rfl⟩ := r1.shape
      obtain ⟨yp, dp, rfl⟩ := r2.shape
      obtain ⟨yb, db, rfl⟩ := r3.shape
      obtain ⟨yd, dd, rfl⟩ := r4.shape
      have hfl := r3.len
      have HFU := lhid hfu
      have HC := lhid hc
      have R3 := lhid r3
      clear hx hE g1 g2 g4 g6 hm0 hfs hfu r1 r2 r3 r4 hc
      have hfd := fun w' => run_fields' c.flags (tx c.name) (tx c.super) ya yp yb yd c.ifaces.length c.pool.length c.fields.length c.methods.length da dp db dd w'
      go_wp2_with (at_lookup; refine wpList_look_mv _ rfl _ _ 58 rfl _ und_cm _ (zero_cl _) cb _ ff rfl HM.out x rfl hxl (.agg #[.int .i64 c.flags, .string (tx c.name), .string (tx c.super), .slice ya c.ifaces.length da, .slice yp c.pool.length dp, .slice yb c.fields.length db, .slice yd c.methods.length dd]) (by rw [HFU.out]; rfl) ?_)
      go_wp2_with fail
      go_loopw [31] (fun i wq => ∃ j : Nat, i = .int .i64 j ∧ j ≤ c.fields.length ∧ Hid ((c.fields.take j).find? (fldB n d) = none) ∧ Hid (Below wr.heap.size wr wq)) (fun i _ => c.fields.length - (intOf i).toNat)
      case atStart => exact ⟨0, rfl, Nat.zero_le _, lhid rfl, lhid (Below.refl _ _)⟩
      case round =>
        obtain ⟨j, rfl, hj, HFJ, HBj⟩ := hrel
        have hbj := HBj.out.size
        by_cases hlt2 : j < c.fields.length
        · obtain ⟨y, hy⟩ : ∃ y, c.fields[j]? = some y := ⟨_, List.getElem?_eq_getElem hlt2⟩
          obtain ⟨gb, ob, ce, rfl, _, hE, hcb⟩ := (R3.out.below (keptX_fl _) HBj.out).at' hy
          have d0 : wr.cell? ⟨gb, ob + j * 3, none⟩ = some (.int .i64 y.flags) := hcb 0 (.int .i64 y.flags) (by rw [show ce = _ from hE]; rfl)
          have d1 : wr.cell? ⟨gb, ob + j * 3 + 1, none⟩ = some (.string (tx y.name)) := hcb 1 (.string (tx y.name)) (by rw [show ce = _ from hE]; rfl)
          have d2 : wr.cell? ⟨gb, ob + j * 3 + 2, none⟩ = some (.string (tx y.desc)) := hcb 2 (.string (tx y.desc)) (by rw [show ce = _ from hE]; rfl)
          have k4 : (j : Int) < c.fields.length := by omega
          have HYJ := lhid hy
          have HBW := lhid (HB.out.trans (Below.less HBj.out hbs))
          clear hy hE hcb
          have hX2 := (HBW.out.block _ hlt1).trans HX1.out
          have HX2 := lhid hX2
          have hx2 := heap_lt hX2
          clear hX2
          have HA2 := lhid ((Below.refl wr.heap.size wr).alloc (Nat.le_refl _) (.cells #[.int .i64 y.flags, .string (tx y.name), .string (tx y.desc)] 44))
          have HX3 := lhid (heap_alloc_new wr (.cells #[.int .i64 y.flags, .string (tx y.name), .string (tx y.desc)] 44))
          have hX4 := (HA2.out.block _ hx2).trans HX2.out
          have HX4 := lhid hX4
          clear hX4
          by_cases hn1 : y.name = n
          · have e1 := tx_yes hn1
            by_cases hn2 : y.desc = d
            · have e2 := tx_yes hn2
              have hhit : fieldIn L n d x = some (x, y) := by
                unfold fieldIn
                rw [HC.out]
                show (c.fields.find? (fldB n d)).map _ = _
                rw [find_hit HFJ.out HYJ.out (by unfold fldB; simp [hn1, hn2])]
                rfl
              have HHIT := lhid (findSome_hit HFN.out HXA.out hhit)
              clear hhit hn1 hn2
              go_upto_region 8 with fail
              generalize wr.alloc (.cells #[.int .i64 y.flags, .string (tx y.name), .string (tx y.desc)] 44) = w5 at *
              have b0 := heap_cell (i := 0) HX3.out rfl
              have b1 := heap_cell (i := 1) HX3.out rfl
              have b2 := heap_cell (i := 2) HX3.out rfl
              have z0 := heap_thaw HX4.out 0
              have z1 := heap_thaw HX4.out 1
              have z2 := heap_thaw HX4.out 2
              have x0 := heap_cell (i := 0) HX4.out rfl
              have x1 := heap_cell (i := 1) HX4.out rfl
              have x2 := heap_cell (i := 2) HX4.out rfl
              have hbw := HBW.out.size
              have HB5 := lhid (Below.drew' (((((HB1.out.trans (Below.less HBW.out hw1)).trans (Below.less HA2.out (by omega))).setCell (p := ⟨w.heap.size, 0, none⟩) (Nat.le_refl _) (.int .i64 y.flags)).setCell (p := ⟨w.heap.size, 1, none⟩) (Nat.le_refl _) (.string (tx y.name))).setCell (p := ⟨w.heap.size, 2, none⟩) (Nat.le_refl _) (.string (tx y.desc))))
              go_region
              go_wp2_with fail
              refine bodyPost_ret (v := .tuple #[.string (tx x), .agg #[.int .i64 y.flags, .string (tx y.name), .string (tx y.desc)], .bool true]) (by simp [results, Try.results12, go_sem, x0, x1, x2]) rfl ?_
              exact ⟨x, y, true, rfl, ⟨l, HLI.out, .inr ⟨HHIT.out, rfl⟩⟩, HB5.out⟩
            · have e2 := tx_nes hn2
              have HN3 := lhid (find_take HFJ.out HYJ.out (show fldB n d y = false by unfold fldB; simp [hn2]))
              clear hn1 hn2
              go_wp2_with fail
              go_roundw
              case rel => first | exact ⟨j + 1, by go_num, by omega, HN3, lhid (HBj.out.trans (Below.less HA2.out hbj))⟩ | trace_state
              case measure => simp [intOf]; omega
          · have e1 := tx_nes hn1
            have HN3 := lhid (find_take HFJ.out HYJ.out (show fldB n d y = false by unfold fldB; simp [hn1]))
            clear hn1
            go_wp2_with fail
            go_roundw
            case rel => first | exact ⟨j + 1, by go_num, by omega, HN3, lhid (HBj.out.trans (Below.less HA2.out hbj))⟩ | trace_state
            case measure => simp [intOf]; omega
        · have k4 : ¬ (j : Int) < c.fields.length := by omega
          have e : j = c.fields.length := by omega
          subst e
          have hno : fieldIn L n d x = none := by
            unfold fieldIn
            rw [HC.out]
            have := HFJ.out
            rw [List.take_length] at this
            simp [this]
          have HN2 := lhid (findSome_take HFN.out HXA.out hno)
          clear hno
          go_wp2_with fail
          go_roundw
          case rel => first | exact ⟨k + 1, by go_num, by omega, HN2, lhid (HB.out.trans (Below.less HBj.out hbs))⟩ | exact ⟨_, _, _, .int .i64 ((k : Int) + 1), ⟨k + 1, by go_num, by omega, HN2, lhid (HB.out.trans (Below.less HBj.out hbs))⟩, rfl, rfl, rfl, rfl⟩ | trace_state
          case measure => simp [intOf]; omega
    · have k3 : ¬ (k : Int) < l.length := by omega
      have e : k = l.length := by omega
      subst e
      have hX2 := (HB.out.block _ hlt1).trans HX1.out
      have x0 := heap_cell (i := 0) hX2 rfl
      have x1 := heap_cell (i := 1) hX2 rfl
      have x2 := heap_cell (i := 2) hX2 rfl
      have z0 := heap_thaw hX2 0
      have z1 := heap_thaw hX2 1
      have z2 := heap_thaw hX2 2
      clear hX2
      go_wp2_with fail
      have hfin := HFN.out
      rw [List.take_length] at hfin
      refine bodyPost_ret (v := .tuple #[.string ⟨#[]⟩, .agg #[.int .i64 0, .string ⟨#[]⟩, .string ⟨#[]⟩], .bool false]) (by simp [results, Try.results12, go_sem, x0, x1, x2]) rfl ?_
      exact ⟨[], ⟨0, [], []⟩, false, rfl, ⟨l, HLI.out, .inl ⟨hfin, rfl, rfl, rfl⟩⟩, (((HB1.out.trans (Below.less HB.out hw1)).setCell (p := ⟨w.heap.size, 0, none⟩) (Nat.le_refl _) _).setCell (p := ⟨w.heap.size, 1, none⟩) (Nat.le_refl _) _).setCell (p := ⟨w.heap.size, 2, none⟩) (Nat.le_refl _) _⟩
end Go.Proofs.Ytkphpihggbbpkaa
