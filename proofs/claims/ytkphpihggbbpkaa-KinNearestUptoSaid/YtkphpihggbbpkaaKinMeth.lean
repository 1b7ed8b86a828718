/- Method: the method that a class's name and a method's lead to. -/
import Derived.Test.YtkphpihggbbpkaaKinField
import Derived.Test.YtkphpihggbbpkaaKinCatS
import Derived.Test.YtkphpihggbbpkaaKinAbove0
namespace Go.Proofs.Ytkphpihggbbpkaa
open Go.RowKit Go Go.Maps
set_option linter.unusedVariables false

def methB (n d : Bs) (f : MeI) : Bool := decide (f.name = n) && decide (f.desc = d)
/-- A class's own method. -/
def methIn (L : List ClI) (n d o : Bs) : Option (Bs × MeI) :=
  match findC L o with
  | none => none
  | some c => (c.methods.find? (methB n d)).map fun f => (o, f)
def zM : MeI := ⟨0, [], [], 0, 0, [], [], []⟩
/-- What Method answers of a list of classes. -/
def MethIs (L : List ClI) (n d : Bs) (l : List Bs) (o : Bs) (f : MeI) (ok : Bool) : Prop :=
  (l.findSome? (methIn L n d) = none ∧ o = [] ∧ f = zM ∧ ok = false) ∨ (l.findSome? (methIn L n d) = some (o, f) ∧ ok = true)
/-- All that stand above a class, in the order of their bytes. -/
def Abv (L : List ClI) (s : Bs) (la : List Bs) : Prop := (∃ l0, la = sortB l0 ∧ l0.Nodup) ∧ ∀ z, z ∈ la ↔ s ∈ names L ∧ Rch L s z
def MethOut (L : List ClI) (s n d : Bs) (w : World) (e : Ending) (w' : World) : Prop :=
  ∃ o cs f ok, e = .returned (.tuple #[.string (tx o), .agg (cs : List Value).toArray, .bool ok]) ∧ MeE (fun g => w.heap.size ≤ g) w' f cs ∧ (∃ l la, Lin L s l ∧ Abv L s la ∧ MethIs L n d (l ++ la) o f ok) ∧ Below w.heap.size w w'
theorem run_meths' (a : Int) (n s : ByteArray) (A B C D : Option Addr) (l1 l2 l3 l4 c1 c2 c3 c4 : Nat) (w : World) : (Instr.field 35 (.agg #[.int .i64 a, .string n, .string s, .slice A l1 c1, .slice B l2 c2, .slice C l3 c3, .slice D l4 c4]) 6).run Try.prog w = .ok (.slice D l4 c4) w := by kernel_rfl
set_option maxHeartbeats 16000000 in
set_option maxRecDepth 100000 in
theorem meth_any (B tb : Nat) (L : List ClI) (s n d : Bs) (w : World) (hT : Hid (TreeOK B w tb L)) (hs : s.length ≤ maxLen) (hL : L.length ≤ 100) (hSh : Hid (Short L)) (hN : Hid (∀ z ∈ names L, ¬ Circ L z)) (hIn : Hid (∀ z, s ∈ names L → Rch L s z → z ∈ names L)) :
    Calls Try.prog 13 #[.pointer (some ⟨tb, 0, none⟩), .string (tx s), .string (tx n), .string (tx d)] w (MethOut L s n d w) := by
  have HB0 := lhid ((Below.refl w.heap.size w).alloc (Nat.le_refl _) (.cells #[.int .i64 0, .string ⟨#[]⟩, .string ⟨#[]⟩, .int .i64 0, .int .i64 0, .slice none 0 0, .slice none 0 0, .slice none 0 0] 48))
  have HX0 := lhid (heap_alloc_new w (.cells #[.int .i64 0, .string ⟨#[]⟩, .string ⟨#[]⟩, .int .i64 0, .int .i64 0, .slice none 0 0, .slice none 0 0, .slice none 0 0] 48))
  have HT0 := lhid (hT.out.below HB0.out)
  go_enter Try.func13, Try.ntmps13
  go_wp2_with fail
  generalize w.alloc (.cells #[.int .i64 0, .string ⟨#[]⟩, .string ⟨#[]⟩, .int .i64 0, .int .i64 0, .slice none 0 0, .slice none 0 0, .slice none 0 0] 48) = w0 at *
  have hw0 := HB0.out.size
  with_reducible refine (line_any B tb L s w0 HT0 hs hL hSh hN).mono ?_
  rintro e w1 ⟨v1, l1, rfl, hr1, hlin, hl1, hin, hb1⟩
  obtain ⟨A1, cap1, rfl⟩ := hr1.shape
  have HLI := lhid hlin
  have HB1 := lhid (HB0.out.trans (Below.less hb1 hw0))
  have hX1 := (hb1.block _ (heap_lt HX0.out)).trans HX0.out
  have HX1 := lhid hX1
  have hT1 := HT0.out.below hb1
  have HT1 := lhid hT1
  have hw1 := HB1.out.size
  have HR1 := lhid hr1
  have HI1 := lhid hin
  clear hr1 hlin hin hb1 hX1 hT1
  go_wp2_with fail
  with_reducible refine (above_any B tb L s w1 HT1 hs hL hSh.out hIn).mono ?_
  rintro e w2 ⟨v2, l2, rfl, hr2, hso, hmem, hb2⟩
  obtain ⟨A2, cap2, rfl⟩ := hr2.shape
  have HAB : Hid (Abv L s l2) := lhid ⟨hso, hmem⟩
  have HI2 : Hid (∀ z ∈ l2, z ∈ names L) := lhid fun z hz => hIn.out z ((hmem z).1 hz).1 ((hmem z).1 hz).2
  have hA2 := (Below.refl w2.heap.size w2).alloc (Nat.le_refl _) (.cells #[.slice A1 l1.length cap1, .slice A2 l2.length cap2] 29)
  have HP1 := lhid (((HR1.out.below (keptX_st _) hb2).below (keptX_st _) hA2).any (Q := fun _ => True) fun _ _ => trivial)
  have HP2 := lhid ((hr2.below (keptX_st _) hA2).any (Q := fun _ => True) fun _ _ => trivial)
  have HG := lhid (heap_alloc_new w2 (.cells #[.slice A1 l1.length cap1, .slice A2 l2.length cap2] 29))
  have hbb := Below.trans (Below.less hb2 (Nat.le_refl _)) (Below.less hA2 hb2.size)
  have HB2 := lhid (HB1.out.trans (Below.less hbb hw1))
  have hX2 := (hbb.block _ (heap_lt HX1.out)).trans HX1.out
  have HX2 := lhid hX2
  have HT2 := lhid (HT1.out.below hbb)
  clear hr2 hso hmem hb2 hA2 hbb hX2
  go_wp2_with fail
  generalize w2.alloc (.cells #[.slice A1 l1.length cap1, .slice A2 l2.length cap2] 29) = w3 at *
  have hw3 := HB2.out.size
  with_reducible refine (concat_st row_st w2.heap.size l1 l2 (.slice A1 l1.length cap1) (.slice A2 l2.length cap2) w3 HG HP1 HP2 2).mono ?_
  rintro e w4 ⟨v4, xs4, rfl, ho4, hrow4, hb4⟩
  obtain ⟨l, hl⟩ : ∃ l, l1 ++ l2 = l := ⟨_, rfl⟩
  have HLL := lhid hl
  have hlen1 := HP1.out.len
  have hl2len : l2.length ≤ 4294967296 := HP2.out.len
  have HIN : Hid (∀ z ∈ l, z ∈ names L) := lhid fun z hz => by
    rw [← hl] at hz
    rcases List.mem_append.1 hz with h | h
    · exact HI1.out z h
    · exact HI2.out z h
  rw [hl] at ho4 hrow4
  obtain ⟨A, cap, rfl⟩ := own_shape ho4
  have hll : l.length ≤ 4294967296 := by
    obtain ⟨⟨l0, h0, hnd⟩, hm⟩ := HAB.out
    have e1 := nodup_len l0 (names L) hnd (fun z hz => HI2.out z (by rw [h0, sortB_mem]; exact hz))
    have e2 : (names L).length = L.length := by unfold names; rw [List.length_map]
    rw [← hl, List.length_append, h0, sortB_len]
    omega
  have HR4 := lhid ((rdX_own (E := StE) ho4 hll (hrow4.imp fun _ _ h => h)).any (Q := fun _ => True) fun _ _ => trivial)
  have HB4 := lhid (HB2.out.trans (Below.less hb4 hw3))
  have hX4 := (hb4.block _ (heap_lt HX2.out)).trans HX2.out
  have HX4 := lhid hX4
  have HT4 := lhid (HT2.out.below hb4)
  have hlt4 := heap_lt hX4
  have hw4 := HB4.out.size
  clear ho4 hrow4 hb4 hX4 hl
  go_wp2_with fail
  go_loopw [24] (fun i wr => ∃ k : Nat, i = .int .i64 k ∧ k ≤ l.length ∧ Hid ((l.take k).findSome? (methIn L n d) = none) ∧ Hid (Below w4.heap.size w4 wr)) (fun i _ => l.length - (intOf i).toNat)
  case atStart => exact ⟨0, rfl, Nat.zero_le _, lhid rfl, lhid (Below.refl _ _)⟩
  case round =>
    obtain ⟨k, rfl, hk, HFN, HB⟩ := hrel
    have hbs := HB.out.size
    by_cases hlt : k < l.length
    · obtain ⟨x, hx⟩ : ∃ x, l[k]? = some x := ⟨_, List.getElem?_eq_getElem hlt⟩
      have hxn := HIN.out x (List.mem_of_getElem? hx)
      have hxl := short_name hSh.out hxn
      have HXA := lhid hx
      obtain ⟨ga, oa, cc, rfl, _, hE, hc⟩ := (HR4.out.below (keptX_st _) HB.out).at' hx
      have c0 : wr.cell? ⟨ga, oa + k, none⟩ = some (.string (tx x)) := by
        have := hc 0 (.string (tx x)) (by rw [show cc = [.string (tx x)] from hE]; rfl)
        rwa [Nat.mul_one] at this
      have k3 : (k : Int) < l.length := by omega
      have hTr := HT4.out.below HB.out
      obtain ⟨⟨cb, ab, nn, v0, g1, g2, g3, g4⟩, g6⟩ := hTr
      have t1 := heap_cell (i := 1) g1 rfl
      obtain ⟨ff, hm0, hfs⟩ := g3
      have HM := lhid hm0
      obtain ⟨c, hc⟩ := names_find hxn
      obtain ⟨u, hfu, cy, rfl, a', p', b', d', rfl, r1, r2, r3, r4⟩ := (hfs x).2 c hc
      obtain ⟨ya, da, rfl⟩ := r1.shape
      obtain ⟨yp, dp, rfl⟩ := r2.shape
      obtain ⟨yb, db, rfl⟩ := r3.shape
      obtain ⟨yd, dd, rfl⟩ := r4.shape
      have hfl := r4.len
      have HFU := lhid hfu
      have HC := lhid hc
      have R4 := lhid r4
      clear hx hE g1 g2 g4 g6 hm0 hfs hfu r1 r2 r3 r4 hc
      have hfd := fun w' => run_meths' c.flags (tx c.name) (tx c.super) ya yp yb yd c.ifaces.length c.pool.length c.fields.length c.methods.length da dp db dd w'
      go_wp2_with (at_lookup; refine wpList_look_mv _ rfl _ _ 58 rfl _ und_cm _ (zero_cl _) cb _ ff rfl HM.out x rfl hxl (.agg #[.int .i64 c.flags, .string (tx c.name), .string (tx c.super), .slice ya c.ifaces.length da, .slice yp c.pool.length dp, .slice yb c.fields.length db, .slice yd c.methods.length dd]) (by rw [HFU.out]; rfl) ?_)
      go_wp2_with fail
      go_loopw [36] (fun i wq => ∃ j : Nat, i = .int .i64 j ∧ j ≤ c.methods.length ∧ Hid ((c.methods.take j).find? (methB n d) = none) ∧ Hid (Below wr.heap.size wr wq)) (fun i _ => c.methods.length - (intOf i).toNat)
      case atStart => exact ⟨0, rfl, Nat.zero_le _, lhid rfl, lhid (Below.refl _ _)⟩
      case round =>
        obtain ⟨j, rfl, hj, HFJ, HBj⟩ := hrel
        have hbj := HBj.out.size
        by_cases hlt2 : j < c.methods.length
        · obtain ⟨y, hy⟩ : ∃ y, c.methods[j]? = some y := ⟨_, List.getElem?_eq_getElem hlt2⟩
          have hR := R4.out.below (keptX_me _) HBj.out
          obtain ⟨gb, ob, ce, rfl, _, hE, hcb⟩ := hR.at' hy
          have hc1 := row_me _ _ _ _ hE
          have HE := lhid hE
          have HRA : Hid (wr.rangeAt gb (ob + j * 8) ce) := lhid hcb
          have HSZ : Hid ((Try.prog.info? 48).map (·.size) = some ce.length) := lhid (by rw [hc1.1]; exact sz_me)
          have HSA : Hid ((Try.prog.info? 48).map (·.size) = some ce.toArray.size) := lhid (by simpa using HSZ.out)
          have HALL : Hid (ce.toArray.all (·.oneCell') = true) := lhid (all_oneCell_toArray hc1.2)
          have hth : (wr.alloc (.cells #[.int .i64 0, .string ⟨#[]⟩, .string ⟨#[]⟩, .int .i64 0, .int .i64 0, .slice none 0 0, .slice none 0 0, .slice none 0 0] 48)).there wr.heap.size 0 8 := fun j hj => ⟨by
            rw [Nat.zero_add, heap_cell (heap_alloc_new wr _) (Array.getElem?_eq_getElem (by simpa using hj))]; rfl, heap_thaw (heap_alloc_new wr _) _⟩
          have HTA : Hid ((wr.alloc (.cells #[.int .i64 0, .string ⟨#[]⟩, .string ⟨#[]⟩, .int .i64 0, .int .i64 0, .slice none 0 0, .slice none 0 0, .slice none 0 0] 48)).there wr.heap.size 0 ce.toArray.size) := lhid (by rw [show ce.toArray.size = 8 by simpa using hc1.1]; exact hth)
          have HRB : Hid (((wr.alloc (.cells #[.int .i64 0, .string ⟨#[]⟩, .string ⟨#[]⟩, .int .i64 0, .int .i64 0, .slice none 0 0, .slice none 0 0, .slice none 0 0] 48)).setCells wr.heap.size 0 ce).rangeAt wr.heap.size 0 ce) := lhid (World.rangeAt_setCells_same _ _ _ _ (by rw [hc1.1]; exact hth))
          have HA2 : Hid (Below wr.heap.size wr ((wr.alloc (.cells #[.int .i64 0, .string ⟨#[]⟩, .string ⟨#[]⟩, .int .i64 0, .int .i64 0, .slice none 0 0, .slice none 0 0, .slice none 0 0] 48)).setCells wr.heap.size 0 ce)) := lhid (below_cells ((Below.refl wr.heap.size wr).alloc (Nat.le_refl _) _) (Nat.le_refl _) _ _)
          have hsz1 : ((wr.alloc (.cells #[.int .i64 0, .string ⟨#[]⟩, .string ⟨#[]⟩, .int .i64 0, .int .i64 0, .slice none 0 0, .slice none 0 0, .slice none 0 0] 48)).setCells wr.heap.size 0 ce).heap.size = wr.heap.size + 1 := by rw [setCells_size]; simp
          have HS1 := lhid hsz1
          have k4 : (j : Int) < c.methods.length := by omega
          have HYJ := lhid hy
          have HBW := lhid (HB.out.trans (Below.less HBj.out hbs))
          obtain ⟨ma, mb, md, hce, _, _, _⟩ := hE
          have q1 : ((wr.alloc (.cells #[.int .i64 0, .string ⟨#[]⟩, .string ⟨#[]⟩, .int .i64 0, .int .i64 0, .slice none 0 0, .slice none 0 0, .slice none 0 0] 48)).setCells wr.heap.size 0 ce).cell? ⟨wr.heap.size, 1, none⟩ = some (.string (tx y.name)) := HRB.out 1 _ (by rw [hce]; rfl)
          have q2 : ((wr.alloc (.cells #[.int .i64 0, .string ⟨#[]⟩, .string ⟨#[]⟩, .int .i64 0, .int .i64 0, .slice none 0 0, .slice none 0 0, .slice none 0 0] 48)).setCells wr.heap.size 0 ce).cell? ⟨wr.heap.size, 2, none⟩ = some (.string (tx y.desc)) := HRB.out 2 _ (by rw [hce]; rfl)
          have HN5 := lhid (HBj.out.trans (Below.less HA2.out hbj))
          clear hy hcb hc1 hth hsz1 hce hR
          by_cases hn1 : y.name = n
          · have e1 := tx_yes hn1
            by_cases hn2 : y.desc = d
            · have e2 := tx_yes hn2
              have hhit : methIn L n d x = some (x, y) := by
                unfold methIn
                rw [HC.out]
                show (c.methods.find? (methB n d)).map _ = _
                rw [find_hit HFJ.out HYJ.out (by unfold methB; simp [hn1, hn2])]
                rfl
              have HHIT := lhid (findSome_hit HFN.out HXA.out hhit)
              clear hhit hn1 hn2
              have HES := lhid (keptX_me _ _ _ _ _ (fun b _ hl => HA2.out.block b hl) HE.out)
              have HX5 := lhid ((HA2.out.block _ (by have := HBW.out.size; omega)).trans ((HBW.out.block _ hlt4).trans HX4.out))
              have HB5 := lhid ((HB4.out.trans (Below.less HBW.out hw4)).trans (Below.less HA2.out (by have := HBW.out.size; omega)))
              go_wp2_with (first | (refine wpList_load_mid rfl 48 _ rfl gb (ob + j * 8) rfl ce _ HRA.out Try.underlying48 (by rfl) HSZ.out ?_) | (refine wpList_store_mid rfl 48 _ _ rfl wr.heap.size 0 ce.toArray rfl rfl HTA.out HSA.out HALL.out ?_) | (refine wpList_load_mid rfl 48 _ rfl wr.heap.size 0 rfl ce _ HRB.out Try.underlying48 (by rfl) HSZ.out ?_))
              refine (copyMethod_cs _ y ce _ HES).mono ?_
              rintro e w6 ⟨cs2, rfl, hE2, hb6⟩
              have hw5 := HB5.out.size
              have hwr : w4.heap.size ≤ wr.heap.size := HBW.out.size
              have HB6 := lhid (HB5.out.trans (Below.less hb6 hw5))
              have hX6 := (hb6.block _ (by rw [HS1.out]; omega)).trans HX5.out
              have hE3 : MeE (fun g => w.heap.size < g) w6 y cs2 := meE_mono (fun g hg _ => by have h1 := HS1.out; omega) _ _ hE2
              have hc2 := row_me _ _ _ _ hE3
              have hth2 : w6.there w.heap.size 0 8 := fun j hj => ⟨by
                rw [Nat.zero_add, heap_cell hX6 (Array.getElem?_eq_getElem (by simpa using hj))]; rfl, heap_thaw hX6 _⟩
              have HTH : Hid (w6.there w.heap.size 0 cs2.toArray.size) := lhid (by rw [show cs2.toArray.size = 8 by simpa using hc2.1]; exact hth2)
              have HSB : Hid ((Try.prog.info? 48).map (·.size) = some cs2.toArray.size) := lhid (by rw [show cs2.toArray.size = 8 by simpa using hc2.1]; exact sz_me)
              have HAL2 : Hid (cs2.toArray.all (·.oneCell') = true) := lhid (all_oneCell_toArray hc2.2)
              have HRC : Hid ((w6.setCells w.heap.size 0 cs2).rangeAt w.heap.size 0 cs2) := lhid (World.rangeAt_setCells_same _ _ _ _ (by rw [hc2.1]; exact hth2))
              have hE4 : MeE (fun g => w.heap.size ≤ g) (w6.setCells w.heap.size 0 cs2) y cs2 := meE_mono (fun g hg _ => Nat.le_of_lt hg) _ _ (keptX_me _ _ _ _ _ (fun g hg _ => setCells_other (b := w.heap.size) (by omega) cs2 0 _) hE3)
              have HE4 := lhid hE4
              have HB7 := lhid (below_cells (b := w.heap.size) HB6.out (Nat.le_refl _) 0 cs2)
              obtain ⟨a2, b2, d2, hcs2, s1, s2, s3⟩ := hE3
              obtain ⟨xa2, da2, rfl⟩ := s1.shape
              obtain ⟨xb2, db2, rfl⟩ := s2.shape
              obtain ⟨xd2, dd2, rfl⟩ := s3.shape
              have r0 : (w6.setCells w.heap.size 0 cs2).cell? ⟨w.heap.size, 0, none⟩ = some (.int .i64 y.flags) := HRC.out 0 _ (by rw [hcs2]; rfl)
              have r1 : (w6.setCells w.heap.size 0 cs2).cell? ⟨w.heap.size, 1, none⟩ = some (.string (tx y.name)) := HRC.out 1 _ (by rw [hcs2]; rfl)
              have r2 : (w6.setCells w.heap.size 0 cs2).cell? ⟨w.heap.size, 2, none⟩ = some (.string (tx y.desc)) := HRC.out 2 _ (by rw [hcs2]; rfl)
              have r3 : (w6.setCells w.heap.size 0 cs2).cell? ⟨w.heap.size, 3, none⟩ = some (.int .i64 y.stack) := HRC.out 3 _ (by rw [hcs2]; rfl)
              have r4 : (w6.setCells w.heap.size 0 cs2).cell? ⟨w.heap.size, 4, none⟩ = some (.int .i64 y.locals) := HRC.out 4 _ (by rw [hcs2]; rfl)
              have r5 : (w6.setCells w.heap.size 0 cs2).cell? ⟨w.heap.size, 5, none⟩ = some (.slice xa2 y.code.length da2) := HRC.out 5 _ (by rw [hcs2]; rfl)
              have r6 : (w6.setCells w.heap.size 0 cs2).cell? ⟨w.heap.size, 6, none⟩ = some (.slice xb2 y.rows.length db2) := HRC.out 6 _ (by rw [hcs2]; rfl)
              have r7 : (w6.setCells w.heap.size 0 cs2).cell? ⟨w.heap.size, 7, none⟩ = some (.slice xd2 y.frames.length dd2) := HRC.out 7 _ (by rw [hcs2]; rfl)
              have HCS := lhid hcs2
              clear hE2 hb6 hX6 hc2 hth2 hE4 hcs2 s1 s2 s3
              go_wp2_with (refine wpList_store_mid rfl 48 _ _ rfl w.heap.size 0 cs2.toArray rfl rfl HTH.out HSB.out HAL2.out ?_)
              refine bodyPost_ret (v := .tuple #[.string (tx x), .agg #[.int .i64 y.flags, .string (tx y.name), .string (tx y.desc), .int .i64 y.stack, .int .i64 y.locals, .slice xa2 y.code.length da2, .slice xb2 y.rows.length db2, .slice xd2 y.frames.length dd2], .bool true]) (by simp [results, Try.results13, go_sem, r0, r1, r2, r3, r4, r5, r6, r7]) rfl ?_
              refine ⟨x, cs2, y, true, ?_, HE4.out, ⟨l1, l2, HLI.out, HAB.out, .inr ⟨by rw [HLL.out]; exact HHIT.out, rfl⟩⟩, HB7.out⟩
              rw [HCS.out]
            · have e2 := tx_nes hn2
              have HN3 := lhid (find_take HFJ.out HYJ.out (show methB n d y = false by unfold methB; simp [hn2]))
              clear hn1 hn2
              go_wp2_with (first | (refine wpList_load_mid rfl 48 _ rfl gb (ob + j * 8) rfl ce _ HRA.out Try.underlying48 (by rfl) HSZ.out ?_) | (refine wpList_store_mid rfl 48 _ _ rfl wr.heap.size 0 ce.toArray rfl rfl HTA.out HSA.out HALL.out ?_) | (refine wpList_load_mid rfl 48 _ rfl wr.heap.size 0 rfl ce _ HRB.out Try.underlying48 (by rfl) HSZ.out ?_))
              go_roundw
              case rel => exact ⟨j + 1, by go_num, by omega, HN3, HN5⟩
              case measure => simp [intOf]; omega
          · have e1 := tx_nes hn1
            have HN3 := lhid (find_take HFJ.out HYJ.out (show methB n d y = false by unfold methB; simp [hn1]))
            clear hn1
            go_wp2_with (first | (refine wpList_load_mid rfl 48 _ rfl gb (ob + j * 8) rfl ce _ HRA.out Try.underlying48 (by rfl) HSZ.out ?_) | (refine wpList_store_mid rfl 48 _ _ rfl wr.heap.size 0 ce.toArray rfl rfl HTA.out HSA.out HALL.out ?_) | (refine wpList_load_mid rfl 48 _ rfl wr.heap.size 0 rfl ce _ HRB.out Try.underlying48 (by rfl) HSZ.out ?_))
            go_roundw
            case rel => exact ⟨j + 1, by go_num, by omega, HN3, HN5⟩
            case measure => simp [intOf]; omega
        · have k4 : ¬ (j : Int) < c.methods.length := by omega
          have e : j = c.methods.length := by omega
          subst e
          have hno : methIn L n d x = none := by
            unfold methIn
            rw [HC.out]
            have := HFJ.out
            rw [List.take_length] at this
            simp [this]
          have HN2 := lhid (findSome_take HFN.out HXA.out hno)
          clear hno
          go_wp2_with fail
          go_roundw
          case rel => first | exact ⟨k + 1, by go_num, by omega, HN2, lhid (HB.out.trans (Below.less HBj.out hbs))⟩ | exact ⟨_, _, _, .int .i64 ((k : Int) + 1), ⟨k + 1, by go_num, by omega, HN2, lhid (HB.out.trans (Below.less HBj.out hbs))⟩, rfl, rfl, rfl, rfl⟩ | trace_state
          case measure => simp [intOf]; omega
    · have k3 : ¬ (k : Int) < l.length := by omega
      have e : k = l.length := by omega
      subst e
      have hX2 := (HB.out.block _ hlt4).trans HX4.out
      have hfin := HFN.out
      rw [List.take_length, ← HLL.out] at hfin
      have x0 := heap_cell (i := 0) hX2 rfl
      have x1 := heap_cell (i := 1) hX2 rfl
      have x2 := heap_cell (i := 2) hX2 rfl
      have x3 := heap_cell (i := 3) hX2 rfl
      have x4 := heap_cell (i := 4) hX2 rfl
      have x5 := heap_cell (i := 5) hX2 rfl
      have x6 := heap_cell (i := 6) hX2 rfl
      have x7 := heap_cell (i := 7) hX2 rfl
      have z0 := heap_thaw hX2 0
      have z1 := heap_thaw hX2 1
      have z2 := heap_thaw hX2 2
      have z3 := heap_thaw hX2 3
      have z4 := heap_thaw hX2 4
      have z5 := heap_thaw hX2 5
      have z6 := heap_thaw hX2 6
      have z7 := heap_thaw hX2 7
      clear hX2
      have HF := lhid hfin
      clear hfin
      go_wp2_with fail
      refine bodyPost_ret (v := .tuple #[.string ⟨#[]⟩, .agg #[.int .i64 0, .string ⟨#[]⟩, .string ⟨#[]⟩, .int .i64 0, .int .i64 0, .slice none 0 0, .slice none 0 0, .slice none 0 0], .bool false]) (by simp [results, Try.results13, go_sem, x0, x1, x2, x3, x4, x5, x6, x7]) rfl ?_
      exact ⟨[], [.int .i64 0, .string ⟨#[]⟩, .string ⟨#[]⟩, .int .i64 0, .int .i64 0, .slice none 0 0, .slice none 0 0, .slice none 0 0], zM, false, rfl, ⟨_, _, _, rfl, rdX_nil _ _ _ _ _ _ (fun _ => rfl), rdX_nil _ _ _ _ _ _ (fun _ => rfl), rdX_nil _ _ _ _ _ _ (fun _ => rfl)⟩, ⟨l1, l2, HLI.out, HAB.out, .inl ⟨HF.out, rfl, rfl, rfl⟩⟩, (((((((((HB4.out.trans (Below.less HB.out hw4)).setCell (p := ⟨w.heap.size, 0, none⟩) (Nat.le_refl _) _).setCell (p := ⟨w.heap.size, 1, none⟩) (Nat.le_refl _) _).setCell (p := ⟨w.heap.size, 2, none⟩) (Nat.le_refl _) _).setCell (p := ⟨w.heap.size, 3, none⟩) (Nat.le_refl _) _).setCell (p := ⟨w.heap.size, 4, none⟩) (Nat.le_refl _) _).setCell (p := ⟨w.heap.size, 5, none⟩) (Nat.le_refl _) _).setCell (p := ⟨w.heap.size, 6, none⟩) (Nat.le_refl _) _).setCell (p := ⟨w.heap.size, 7, none⟩) (Nat.le_refl _) _)⟩
end Go.Proofs.Ytkphpihggbbpkaa
