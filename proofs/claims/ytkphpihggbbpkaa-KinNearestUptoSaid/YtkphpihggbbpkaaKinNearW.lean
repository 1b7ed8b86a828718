/- The walk of KinNearest. -/
import Derived.Test.YtkphpihggbbpkaaKinNear
import Derived.Deep.Cut
import Derived.Deep.CutRange
namespace Go.Proofs.Ytkphpihggbbpkaa
open Go.RowKit Go Go.Maps
set_option linter.unusedVariables false

/-- A list of no or of one field, in a block of its own. -/
def One1 (w : World) (v : Value) (l : List FlI) : Prop :=
  (l = [] ∧ v = .slice none 0 0) ∨ ∃ g f, l = [f] ∧ v = .slice (some ⟨g, 0, none⟩) 1 1 ∧ w.heap[g]? = some (.cells #[.int .i64 f.flags, .string (tx f.name), .string (tx f.desc)] 44 (0, 0))
def One2 (w : World) (v : Value) (l : List MeI) : Prop :=
  (l = [] ∧ v = .slice none 0 0) ∨ ∃ g n d, l = [⟨0, n, d, 0, 0, [], [], []⟩] ∧ v = .slice (some ⟨g, 0, none⟩) 1 1 ∧ w.heap[g]? = some (.cells #[.int .i64 0, .string (tx n), .string (tx d), .int .i64 0, .int .i64 0, .slice none 0 0, .slice none 0 0, .slice none 0 0] 48 (0, 0))
/-- The cells of a class of the chain. -/
def NE (w : World) (c : ClI) (cs : List Value) : Prop :=
  ∃ fv mv, cs = [.int .i64 c.flags, .string (tx c.name), .string (tx c.super), .slice none 0 0, .slice none 0 0, fv, mv] ∧ c.ifaces = [] ∧ c.pool = [] ∧ One1 w fv c.fields ∧ One2 w mv c.methods
/-- Blocks of other types than Class stand as they stood. -/
def KeepT (w w' : World) : Prop := ∀ (g : Nat) (o : Array Value) (T : TypeId) (fr : Nat × Nat), w.heap[g]? = some (Obj.cells o T fr) → T ≠ 35 → w'.heap[g]? = w.heap[g]?
theorem keepT_below {w w' : World} (h : Below w.heap.size w w') : KeepT w w' := fun g o T fr hg _ => h.block g (heap_lt hg)
theorem keepT_grown {w w' : World} {B n : Nat} {v : Value} {xs : List Value} (ho : w.ownsRow B 35 7 v n xs) (hg : w.grownBy w' v.ownBlock) : KeepT w w' := by
  intro g o T fr h hT
  refine hg.block g (heap_lt h) (fun e => ?_)
  rcases ho.2 with ⟨h1, _⟩ | ⟨k, cap, cur, h1, _, h2, _⟩
  · rw [h1] at e; cases e
  · rw [h1] at e
    injection e with e
    have e : g = k := e
    subst e
    rw [h] at h2
    injection h2 with h2
    injection h2 with _ h3
    exact hT h3
theorem alloc_sz (w : World) (o : Obj) : (w.alloc o).heap.size = w.heap.size + 1 := by simp
theorem chn_short (d : Bs) (hs : List Bool) (m : Nat) : Short (chn d hs m) := by
  intro c hc
  obtain ⟨i, hi, rfl⟩ := List.mem_map.1 hc
  refine ⟨?_, ?_, fun i hi => by cases hi⟩
  · show (nm i).length ≤ maxLen
    unfold nm maxLen
    simp
  · unfold cls
    show (if i = 0 then nObject else nm (i - 1)).length ≤ maxLen
    split
    · decide
    · unfold nm maxLen; simp
theorem field_f (B tb : Nat) (L : List ClI) (s d : Bs) (w : World) (hT : Hid (TreeOK B w tb L)) (hs : s.length ≤ maxLen) (hL : L.length ≤ 100) (hSh : Hid (Short L)) (hN : Hid (∀ z ∈ names L, ¬ Circ L z)) :
    Calls Try.prog 12 #[.pointer (some ⟨tb, 0, none⟩), .string (tx s), .string ⟨#[102]⟩, .string (tx d)] w (FieldOut L s [102] d w) := field_any B tb L s [102] d w hT hs hL hSh hN
theorem meth_m (B tb : Nat) (L : List ClI) (s d : Bs) (w : World) (hT : Hid (TreeOK B w tb L)) (hs : s.length ≤ maxLen) (hL : L.length ≤ 100) (hSh : Hid (Short L)) (hN : Hid (∀ z ∈ names L, ¬ Circ L z)) (hIn : Hid (∀ z, s ∈ names L → Rch L s z → z ∈ names L)) :
    Calls Try.prog 13 #[.pointer (some ⟨tb, 0, none⟩), .string (tx s), .string ⟨#[109]⟩, .string (tx d)] w (MethOut L s [109] d w) := meth_any B tb L s [109] d w hT hs hL hSh hN hIn
theorem ofL_len (i : Nat) : (ofL (nm i)).length ≤ 281474976710656 := by rw [ofL_nm]; unfold nm; simp
/-- Who has it nearest, ahead of the k-th. -/
def wantP (hs : List Bool) : Nat → Bs
  | 0 => []
  | k + 1 => wantN hs k
theorem want_yes {hs : List Bool} {k : Nat} (h : hs.getD k false = true) : wantN hs k = nm k := by
  cases k <;> simp only [wantN, h, if_true]
theorem want_no {hs : List Bool} {k : Nat} (h : hs.getD k false = false) : wantN hs k = wantP hs k := by
  cases k with
  | zero => unfold wantN wantP; rw [if_neg (by rw [h]; decide)]
  | succ k => unfold wantN wantP; rw [if_neg (by rw [h]; decide)]
theorem KeepT.trans {a b c : World} (h : KeepT a b) (k : KeepT b c) : KeepT a c := fun g o T fr hg hT => by
  have h1 := h g o T fr hg hT
  exact (k g o T fr (h1.trans hg) hT).trans h1
theorem One1.slice {w : World} {v : Value} {l : List FlI} (h : One1 w v l) : ∃ a n c, v = .slice a n c := by
  rcases h with ⟨_, h⟩ | ⟨g, f, _, h, _⟩ <;> exact ⟨_, _, _, h⟩
theorem One2.slice {w : World} {v : Value} {l : List MeI} (h : One2 w v l) : ∃ a n c, v = .slice a n c := by
  rcases h with ⟨_, h⟩ | ⟨g, n, d, _, h, _⟩ <;> exact ⟨_, _, _, h⟩
theorem One1.keep {w w' : World} {v : Value} {l : List FlI} (h : One1 w v l) (hk : KeepT w w') : One1 w' v l := by
  rcases h with h | ⟨g, f, h1, h2, h3⟩
  · exact .inl h
  · exact .inr ⟨g, f, h1, h2, (hk _ _ _ _ h3 (by decide)).trans h3⟩
theorem One2.keep {w w' : World} {v : Value} {l : List MeI} (h : One2 w v l) (hk : KeepT w w') : One2 w' v l := by
  rcases h with h | ⟨g, n, d, h1, h2, h3⟩
  · exact .inl h
  · exact .inr ⟨g, n, d, h1, h2, (hk _ _ _ _ h3 (by decide)).trans h3⟩
theorem NE.keep {w w' : World} {c : ClI} {cs : List Value} (h : NE w c cs) (hk : KeepT w w') : NE w' c cs := by
  obtain ⟨fv, mv, h1, h2, h3, h4, h5⟩ := h
  exact ⟨fv, mv, h1, h2, h3, h4.keep hk, h5.keep hk⟩
theorem One1.rd {w : World} {v : Value} {l : List FlI} (h : One1 w v l) : RdX (fun _ => True) 3 FlE w v l := by
  rcases h with ⟨rfl, rfl⟩ | ⟨g, f, rfl, rfl, h3⟩
  · exact rdX_nil _ _ _ _ _ _ fun _ => rfl
  · refine ⟨_, 1, rfl, fun e => (by cases e), by simp, fun i a hi => ?_⟩
    cases i with
    | succ i => simp at hi
    | zero =>
      simp at hi
      subst hi
      refine ⟨g, 0, _, rfl, trivial, rfl, fun j u hj => ?_⟩
      rw [show 0 + 0 * 3 + j = j by omega]
      exact heap_cell h3 (by simpa using hj)
theorem One2.rd {w : World} {v : Value} {l : List MeI} (h : One2 w v l) : RdX (fun _ => True) 8 (MeE fun _ => True) w v l := by
  rcases h with ⟨rfl, rfl⟩ | ⟨g, n, d, rfl, rfl, h3⟩
  · exact rdX_nil _ _ _ _ _ _ fun _ => rfl
  · refine ⟨_, 1, rfl, fun e => (by cases e), by simp, fun i a hi => ?_⟩
    cases i with
    | succ i => simp at hi
    | zero =>
      simp at hi
      subst hi
      refine ⟨g, 0, [.int .i64 0, .string (tx n), .string (tx d), .int .i64 0, .int .i64 0, .slice none 0 0, .slice none 0 0, .slice none 0 0], rfl, trivial, ⟨_, _, _, rfl, rdX_nil _ _ _ _ _ _ fun _ => rfl, rdX_nil _ _ _ _ _ _ fun _ => rfl, rdX_nil _ _ _ _ _ _ fun _ => rfl⟩, fun j u hj => ?_⟩
      rw [show 0 + 0 * 8 + j = j by omega]
      exact heap_cell h3 (by simpa using hj)
theorem NE.cl {w : World} {c : ClI} {cs : List Value} (h : NE w c cs) : ClE (fun _ => True) w c cs := by
  obtain ⟨fv, mv, rfl, h2, h3, h4, h5⟩ := h
  exact ⟨_, _, _, _, rfl, by rw [h2]; exact rdX_nil _ _ _ _ _ _ fun _ => rfl, by rw [h3]; exact rdX_nil _ _ _ _ _ _ fun _ => rfl, h4.rd, h5.rd⟩
theorem tx_L (i : Nat) : (⟨#[76]⟩ ++ tx (nm i) ++ ⟨#[59]⟩ : ByteArray) = tx (ofL (nm i)) := by
  have := of_app (tx (nm i))
  rw [tx_list] at this
  rw [ofL_nm]
  exact this
/-- The loop that lays the chain. -/
def ChAt (B : Nat) (d : Bs) (hs : List Bool) (w : World) (v : Value) (k : Nat) : Prop :=
  ∃ xs, w.ownsRow B 35 7 v k xs ∧ RowsE 7 (NE w) (chn d hs k) xs
set_option maxHeartbeats 32000000 in
set_option maxRecDepth 100000 in
theorem KinNearest_walk (v : Value) (hs : List Bool) (d : Bs) (w : World) (h : Hid (RdX Tru 1 BoE w v hs)) (hd : d.length ≤ 1048576) :
    Calls Try.prog 4 #[v, .string (tx d)] w fun e w' => e = .returned (.bool true) ∧ Below w.heap.size w w' := by
  obtain ⟨i0, hi, hz0, hz1, hz2⟩ := info_parts info_cl
  obtain ⟨A, cap, rfl⟩ := h.out.shape
  have hlen := h.out.len
  go_enter Try.func4, Try.ntmps4
  go_wp2_with fail
  with_reducible refine (holds_any _).mono ?_
  rintro e w1 ⟨rfl, hb1⟩
  have HB1 := lhid hb1
  have H1 := lhid (h.out.below (keptX_pure _ _ fun _ _ => rfl) hb1)
  clear hb1
  have hw1 := HB1.out.size
  by_cases hbig : 35 < hs.length
  · have k1 : (hs.length : Int) > 35 := by omega
    go_wp2_with fail
    go_ret
    exact ⟨by rfl, HB1.out⟩
  by_cases hzero : hs.length = 0
  · have k1 : ¬ (hs.length : Int) > 35 := by omega
    have k2 : (hs.length : Int) = 0 := by omega
    go_wp2_with fail
    go_ret
    exact ⟨by rfl, HB1.out⟩
  have k1 : ¬ (hs.length : Int) > 35 := by omega
  have k2 : ¬ (hs.length : Int) = 0 := by omega
  have hm : hs.length ≤ 35 := by omega
  have hpos : 0 < hs.length := by omega
  clear hbig hzero
  have k9 : ((hs.length : Int) == 0) = false := by simpa using k2
  have k8 : decide ((35 : Int) < (hs.length : Int)) = false := by simpa using k1
  clear k1 k2
  go_wp2_with fail
  clear k8 k9
  go_loopw [5, 33] (fun v i wr => ∃ k : Nat, i = .int .i64 k ∧ k ≤ hs.length ∧ Hid (ChAt w1.heap.size d hs wr v k) ∧ Hid (Below w1.heap.size w1 wr)) (fun _ i _ => hs.length - (intOf i).toNat)
  case atStart => exact ⟨0, rfl, Nat.zero_le _, lhid ⟨[], World.ownsRow_nil _ _ _ _, rowsE_nil _ _⟩, lhid (Below.refl _ _)⟩
  case round =>
    obtain ⟨k, rfl, hk, HCH, HB⟩ := hrel
    have hbs := HB.out.size
    by_cases hlt : k < hs.length
    · obtain ⟨b, hb⟩ : ∃ b, hs[k]? = some b := ⟨_, List.getElem?_eq_getElem hlt⟩
      have hgd : hs.getD k false = b := by rw [List.getD_eq_getElem?_getD, hb]; rfl
      have HGD := lhid hgd
      obtain ⟨ga, oa, cc, rfl, _, hE, hc⟩ := (H1.out.below (keptX_pure _ _ fun _ _ => rfl) HB.out).at' hb
      have c0 : wr.cell? ⟨ga, oa + k, none⟩ = some (.bool b) := by
        have := hc 0 (.bool b) (by rw [show cc = [.bool b] from hE]; rfl)
        rwa [Nat.mul_one] at this
      have k3 : (k : Int) < hs.length := by omega
      clear hb hgd hE hc
      go_wp2_with fail
      with_reducible refine (name_any' k _ (lhid rfl) wr (by omega)).mono ?_
      rintro e w2 ⟨rfl, hb2⟩
      have HB2 := lhid hb2
      have hw2 := hb2.size
      clear hb2 c0
      have HG2 := lhid (heap_alloc_new w2 (.cells #[.int .i64 0, .string (tx (nm k)), .string ⟨#[79, 98, 106, 101, 99, 116]⟩, .slice none 0 0, .slice none 0 0, .slice none 0 0, .slice none 0 0] 35))
      have HA2 := lhid ((Below.refl w2.heap.size w2).alloc (Nat.le_refl _) (.cells #[.int .i64 0, .string (tx (nm k)), .string ⟨#[79, 98, 106, 101, 99, 116]⟩, .slice none 0 0, .slice none 0 0, .slice none 0 0, .slice none 0 0] 35))
      go_upto_if 43 with fail
      go_cut [33] from 33 to 62 (fun i wx => i = .int .i64 k ∧ Hid (wx.heap[w2.heap.size]? = some (.cells #[.int .i64 0, .string (tx (nm k)), .string (tx (cls d k b).super), .slice none 0 0, .slice none 0 0, .slice none 0 0, .slice none 0 0] 35 (0, 0))) ∧ Hid (Below w2.heap.size w2 wx))
      case first =>
        by_cases h0 : k = 0
        · subst h0
          go_wp2_with fail
          go_meet
          exact ⟨rfl, lhid (by rw [HG2.out]; rfl), HA2⟩
        · obtain ⟨j, rfl⟩ : ∃ j, k = j + 1 := ⟨k - 1, by omega⟩
          have k5 : ((j : Int) + 1) > 0 := by omega
          clear h0
          generalize w2.alloc (.cells #[.int .i64 0, .string (tx (nm (j + 1))), .string ⟨#[79, 98, 106, 101, 99, 116]⟩, .slice none 0 0, .slice none 0 0, .slice none 0 0, .slice none 0 0] 35) = w3 at *
          go_wp2_with fail
          with_reducible refine (name_any' j _ (lhid (by first | omega | go_num | simp)) w3 (by omega)).mono ?_
          rintro e w4 ⟨rfl, hb4⟩
          have hG4 := (hb4.block _ (heap_lt HG2.out)).trans HG2.out
          have HG4 := lhid hG4
          have HB4 := lhid (HA2.out.trans (Below.less hb4 HA2.out.size))
          have z2 := heap_thaw hG4 2
          have y2 := heap_cell (i := 2) hG4 rfl
          clear hb4 hG4
          go_wp2_with fail
          go_meet
          refine ⟨?_, lhid ?_, lhid (HB4.out.setCell (p := ⟨w2.heap.size, 2, none⟩) (Nat.le_refl _) _)⟩
          · first | rfl | simp
          · have := heap_set (i := 2) HG4.out (.string (tx (nm j)))
            simpa [cls] using this
      case rest =>
        obtain ⟨rfl, HGC, HBC⟩ := hcut
        have hwc := HBC.out.size
        obtain ⟨S, hS⟩ : ∃ S, (cls d k b).super = S := ⟨_, rfl⟩
        have HS := lhid hS
        rw [hS] at HGC
        clear hS
        go_upto_if 49 with fail
        go_cut [33] from 33 to 62 (fun i wx => i = .int .i64 k ∧ ∃ fv mv, Hid (wx.heap[w2.heap.size]? = some (.cells #[.int .i64 0, .string (tx (nm k)), .string (tx S), .slice none 0 0, .slice none 0 0, fv, mv] 35 (0, 0))) ∧ Hid (One1 wx fv (cls d k b).fields) ∧ Hid (One2 wx mv (cls d k b).methods) ∧ Hid (Below w2.heap.size w2 wx))
        case first =>
          cases b with
          | false =>
            go_wp2_with fail
            go_meet
            exact ⟨rfl, _, _, HGC, lhid (.inl ⟨rfl, rfl⟩), lhid (.inl ⟨rfl, rfl⟩), HBC⟩
          | true =>
            have hlt9 := heap_lt HGC.out
            have y5 := heap_cell (i := 5) HGC.out rfl
            have y6 := heap_cell (i := 6) HGC.out rfl
            have z5 := heap_thaw HGC.out 5
            have z6 := heap_thaw HGC.out 6
            go_wp2_with fail
            go_meet
            have hG5 := heap_set (i := 6) (heap_set (i := 5) HGC.out (.slice (some ⟨wc.heap.size, 0, none⟩) 1 1)) (.slice (some ⟨wc.heap.size + 1, 0, none⟩) 1 1)
            have hB5 := (HBC.out.setCell (p := ⟨w2.heap.size, 5, none⟩) (Nat.le_refl _) (.slice (some ⟨wc.heap.size, 0, none⟩) 1 1)).setCell (p := ⟨w2.heap.size, 6, none⟩) (Nat.le_refl _) (.slice (some ⟨wc.heap.size + 1, 0, none⟩) 1 1)
            have hs5 : ((wc.setCell ⟨w2.heap.size, 5, none⟩ (.slice (some ⟨wc.heap.size, 0, none⟩) 1 1)).setCell ⟨w2.heap.size, 6, none⟩ (.slice (some ⟨wc.heap.size + 1, 0, none⟩) 1 1)).heap.size = wc.heap.size := by simp [World.setCell]
            refine ⟨rfl, .slice (some ⟨wc.heap.size, 0, none⟩) 1 1, .slice (some ⟨wc.heap.size + 1, 0, none⟩) 1 1, lhid ?_, lhid (.inr ⟨wc.heap.size, ⟨0, [102], d⟩, rfl, rfl, ?_⟩), lhid (.inr ⟨wc.heap.size + 1, [109], d, rfl, rfl, ?_⟩), lhid ?_⟩
            · rw [Below.heap_alloc _ _ _ (by simp only [alloc_sz]; omega), Below.heap_alloc _ _ _ (by omega)]
              simpa using hG5
            · rw [Below.heap_alloc _ _ _ (by simp only [alloc_sz]; omega)]
              have := heap_alloc_new ((wc.setCell ⟨w2.heap.size, 5, none⟩ (.slice (some ⟨wc.heap.size, 0, none⟩) 1 1)).setCell ⟨w2.heap.size, 6, none⟩ (.slice (some ⟨wc.heap.size + 1, 0, none⟩) 1 1)) (.cells #[.int .i64 0, .string (tx [102]), .string (tx d)] 44)
              rw [hs5] at this
              exact this
            · have := heap_alloc_new (((wc.setCell ⟨w2.heap.size, 5, none⟩ (.slice (some ⟨wc.heap.size, 0, none⟩) 1 1)).setCell ⟨w2.heap.size, 6, none⟩ (.slice (some ⟨wc.heap.size + 1, 0, none⟩) 1 1)).alloc (.cells #[.int .i64 0, .string (tx [102]), .string (tx d)] 44)) (.cells #[.int .i64 0, .string (tx [109]), .string (tx d), .int .i64 0, .int .i64 0, .slice none 0 0, .slice none 0 0, .slice none 0 0] 48)
              rw [alloc_sz, hs5] at this
              exact this
            · exact (hB5.alloc hB5.size _).alloc (by rw [alloc_sz]; have := hB5.size; omega) _
        case rest =>
          obtain ⟨rfl, fv, mv, HGE, HO1, HO2, HBD⟩ := hcut
          obtain ⟨xs, hown, hrow⟩ := HCH.out
          obtain ⟨fa, fn, fc, rfl⟩ := HO1.out.slice
          obtain ⟨ma, mn, mc, rfl⟩ := HO2.out.slice
          have hbt : Below wr.heap.size wr wc := HB2.out.trans (Below.less HBD.out hw2)
          have HBT := lhid hbt
          have hoc := own_of hown fun g hg => hbt.block g (hown.lt g hg).2
          have HOC := lhid hoc
          have HRO := lhid (hrow.imp fun _ _ h => h.keep (keepT_below hbt))
          have hwd := hbt.size
          have hg9 := heap_lt HGE.out
          obtain ⟨A5, c5, rfl⟩ := own_shape hown
          have y0 := heap_cell (i := 0) HGE.out rfl
          have y1 := heap_cell (i := 1) HGE.out rfl
          have y2 := heap_cell (i := 2) HGE.out rfl
          have y3 := heap_cell (i := 3) HGE.out rfl
          have y4 := heap_cell (i := 4) HGE.out rfl
          have y5 := heap_cell (i := 5) HGE.out rfl
          have y6 := heap_cell (i := 6) HGE.out rfl
          clear hown hrow hbt hoc
          go_wp2_with (at_builtin; refine wpList_append_own _ rfl _ _ 22 rfl w1.heap.size 35 i0 (.agg #[.int .i64 0, .string ⟨#[]⟩, .string ⟨#[]⟩, .slice none 0 0, .slice none 0 0, .slice none 0 0, .slice none 0 0]) 7 136 Try.underlying22 hi hz0 hz1 hz2 rfl (by decide) _ k xs rfl (HOC.out.alloc _) ⟨wc.heap.size, 0, none⟩ 1 1 [.int .i64 0, .string (tx (nm k)), .string (tx S), .slice none 0 0, .slice none 0 0, .slice fa fn fc, .slice ma mn mc] rfl rfl (new_cells _ _ _) ?a2 ?a3 ?a4 ?a5 ?_)
          case a2 => simp [Value.oneCell']
          case a3 => unfold maxLen; omega
          case a4 => omega
          case a5 => first | omega | (simp; omega)
          intro v2 w5 hown2 hgrow hnil
          have hAl : Below wc.heap.size wc (wc.alloc (.cells #[.int .i64 0, .string (tx (nm k)), .string (tx S), .slice none 0 0, .slice none 0 0, .slice fa fn fc, .slice ma mn mc] 35)) := (Below.refl _ _).alloc (Nat.le_refl _) _
          have hkt := (keepT_below hAl).trans (keepT_grown (HOC.out.alloc _) hgrow)
          have hne : NE w5 (cls d k b) [.int .i64 0, .string (tx (nm k)), .string (tx S), .slice none 0 0, .slice none 0 0, .slice fa fn fc, .slice ma mn mc] := ⟨_, _, by rw [← HS.out]; rfl, rfl, rfl, HO1.out.keep hkt, HO2.out.keep hkt⟩
          have HCH2 : Hid (ChAt w1.heap.size d hs w5 v2 (k + 1)) := lhid ⟨_, hown2, by
            rw [chn_succ, HGD.out]
            exact (HRO.out.imp fun _ _ h => h.keep hkt).app (rowsE_one hne rfl)⟩
          have HB5 : Hid (Below w1.heap.size w1 w5) := lhid (Below.grown ((HB.out.trans (Below.less HBT.out hbs)).alloc (by omega) _) hgrow (by rw [alloc_sz]; omega) (own_lt HOC.out))
          clear hown2 hgrow hnil hAl hkt hne y0 y1 y2 y3 y4 y5 y6
          go_wp2_with fail
          go_roundw
          case rel => first | exact ⟨k + 1, by go_num, by omega, HCH2, HB5⟩ | ((repeat apply Exists.intro); exact ⟨⟨k + 1, by go_num, by omega, HCH2, HB5⟩, rfl⟩)
          case measure => simp [intOf]; omega
    · have k3 : ¬ (k : Int) < hs.length := by omega
      have hke : hs.length = k := by omega
      have hmk : k ≤ 35 := by omega
      have HKE := lhid hke
      clear hke hk k3
      have k3 : ¬ (k : Int) < hs.length := by have := HKE.out; omega
      obtain ⟨xs, hown, hrow⟩ := HCH.out
      obtain ⟨A5, c5, rfl⟩ := own_shape hown
      have hrd : RdX (fun _ => True) 7 (ClE fun _ => True) wr (.slice A5 k c5) (chn d hs k) := by
        have h1 := rdX_own (E := NE) (l := chn d hs k) (v := .slice A5 k c5) (w := wr) (B := w1.heap.size) (by rw [chn_len]; exact hown) (by rw [chn_len]; omega) hrow
        exact h1.mono (fun _ _ h => h.cl) (fun _ _ _ => trivial) (fun _ _ h => by obtain ⟨_, _, rfl, _⟩ := h; simp)
      have HRD := lhid hrd
      have HBA := lhid (HB1.out.trans (Below.less HB.out hw1))
      have hwa := HBA.out.size
      clear hown hrow hrd
      go_wp2_with fail
      with_reducible refine (new_any _ (.slice A5 k c5) (chn d hs k) wr HRD (lhid (chn_short d hs k))).mono ?_
      rintro e9 w2 ⟨hb2, x, hx, hcase⟩
      have hx0 := newE_fun hx (chn_new d hs (by omega))
      subst hx0
      rcases hcase with ⟨hx0, _⟩ | ⟨_, tb, rfl, hT⟩
      · exact absurd rfl hx0
      have HB2 := lhid (HBA.out.trans (Below.less hb2 hwa))
      have HT2 := lhid hT
      have hw2 := HB2.out.size
      have H2 := lhid ((H1.out.below (keptX_pure _ _ fun _ _ => rfl) HB.out).below (keptX_pure _ _ fun _ _ => rfl) hb2)
      obtain ⟨L, hL⟩ : ∃ L, ownL ++ chn d hs k = L := ⟨_, rfl⟩
      have HLE := lhid hL
      have HSL : Hid (Short L) := lhid (by rw [← hL]; exact short_all (chn_short d hs k))
      have HNC : Hid (∀ z ∈ names L, ¬ Circ L z) := lhid (by rw [← hL]; exact fun z _ => chn_circ d hs hmk z)
      have HCL : Hid (Closed L) := lhid (by rw [← hL]; exact chn_closed d hs hmk)
      have hLL : L.length ≤ 100 := by rw [← hL, List.length_append, ownL_len, chn_len]; omega
      rw [hL] at HT2
      clear hb2 hx hT hL
      go_wp2_with fail
      go_loopw [12, 72] (fun wv i wr => ∃ j : Nat, i = .int .i64 j ∧ j ≤ k ∧ wv = .string (tx (wantP hs j)) ∧ Hid (Below w2.heap.size w2 wr)) (fun _ i _ => k - (intOf i).toNat)
      case atStart => exact ⟨0, rfl, Nat.zero_le _, rfl, lhid (Below.refl _ _)⟩
      case round =>
        obtain ⟨j, rfl, hj, rfl, HBj⟩ := hrel
        have hbj := HBj.out.size
        by_cases hlt : j < k
        · obtain ⟨b, hb⟩ : ∃ b, hs[j]? = some b := ⟨_, List.getElem?_eq_getElem (by have := HKE.out; omega)⟩
          have hgd : hs.getD j false = b := by rw [List.getD_eq_getElem?_getD, hb]; rfl
          have HGD := lhid hgd
          obtain ⟨ga, oa, cc, rfl, _, hE, hc⟩ := (H2.out.below (keptX_pure _ _ fun _ _ => rfl) HBj.out).at' hb
          have c0 : wr.cell? ⟨ga, oa + j, none⟩ = some (.bool b) := by
            have := hc 0 (.bool b) (by rw [show cc = [.bool b] from hE]; rfl)
            rwa [Nat.mul_one] at this
          have k4 : (j : Int) < hs.length := by have := HKE.out; omega
          clear hb hgd hE hc
          go_upto_if 77 with fail
          go_cut [12, 72] from 72 to 151 (fun wv i wx => i = .int .i64 j ∧ wv = .string (tx (wantN hs j)) ∧ Hid (Below wr.heap.size wr wx))
          case first =>
            cases b with
            | false =>
              go_wp2_with fail
              go_meet
              exact ⟨rfl, by rw [want_no HGD.out], lhid (Below.refl _ _)⟩
            | true =>
              go_wp2_with fail
              with_reducible refine (name_any' j _ (lhid rfl) wr (by omega)).mono ?_
              rintro e w4 ⟨rfl, hb4⟩
              have HB4 := lhid hb4
              clear hb4
              go_wp2_with fail
              go_meet
              exact ⟨rfl, by rw [want_yes HGD.out], HB4⟩
          case rest =>
            obtain ⟨rfl, rfl, HBC⟩ := hcut
            have hwc := HBC.out.size
            have hT3 := (HT2.out.below HBj.out).below HBC.out
            have HT3 := lhid hT3
            clear c0 hT3
            obtain ⟨W, hW⟩ : ∃ W, wantN hs j = W := ⟨_, rfl⟩
            have HW := lhid hW
            rw [hW]
            clear hW
            obtain ⟨q, hq⟩ : ∃ q, decide (W = []) = q := ⟨_, rfl⟩
            have HQ := lhid hq
            clear hq
            have hnl : ∀ i, (nm i).length = 3 := fun i => rfl
            have HNL := lhid hnl
            clear hnl
            go_wp2_with fail
            with_reducible refine (name_any' j _ (lhid rfl) wc (by omega)).mono ?_
            rintro e w4 ⟨rfl, hb4⟩
            have HB4 := lhid (HBC.out.trans (Below.less hb4 hwc))
            have hw4 := HB4.out.size
            have HT4 := lhid (HT3.out.below hb4)
            clear hb4
            go_wp2_with fail
            with_reducible refine (field_f _ tb L (nm j) d w4 HT4 (by rw [HNL.out]; unfold maxLen; omega) hLL HSL HNC).mono ?_
            rintro e w5 ⟨o1, f1, ok1, rfl, hf1, hb5⟩
            have hf1' := chn_field d hs hmk hlt (by rw [HLE.out]; exact hf1)
            rw [HW.out, HQ.out] at hf1'
            obtain ⟨ho1, hok1⟩ := hf1'
            rw [ho1, hok1]
            clear ho1 hok1
            have HB5 := lhid (HB4.out.trans (Below.less hb5 hw4))
            have hT5 := HT4.out.below hb5
            have HB5A := lhid ((HB5.out.alloc HB5.out.size (.cells #[.int .i64 f1.flags, .string (tx f1.name), .string (tx f1.desc)] 44)))
            have HT5 := lhid (hT5.below ((Below.refl w5.heap.size w5).alloc (Nat.le_refl _) (.cells #[.int .i64 f1.flags, .string (tx f1.name), .string (tx f1.desc)] 44)))
            have hw5 := HB5A.out.size
            clear hf1 hb5 hT5
            go_wp2_with fail
            generalize w5.alloc (.cells #[.int .i64 f1.flags, .string (tx f1.name), .string (tx f1.desc)] 44) = w6 at *
            with_reducible refine (name_any' j _ (lhid rfl) w6 (by omega)).mono ?_
            rintro e w7 ⟨rfl, hb7⟩
            have HB7 := lhid (HB5A.out.trans (Below.less hb7 hw5))
            have hw7 := HB7.out.size
            have HT7 := lhid (HT5.out.below hb7)
            clear hb7
            go_wp2_with fail
            with_reducible refine (meth_m _ tb L (nm j) d w7 HT7 (by rw [HNL.out]; unfold maxLen; omega) hLL HSL HNC (lhid (fun z hz hr => rch_in HCL.out hz hr))).mono ?_
            rintro e w8 ⟨o2, cs2, f2, ok2, rfl, hE2, hf2, hb8⟩
            have hf2' := chn_meth d hs hmk hlt (by rw [HLE.out]; exact hf2)
            rw [HW.out, HQ.out] at hf2'
            obtain ⟨ho2, hok2⟩ := hf2'
            rw [ho2, hok2]
            clear ho2 hok2
            have HB8 := lhid (HB7.out.trans (Below.less hb8 hw7))
            have HT8 := lhid (HT7.out.below hb8)
            have hw8 := HB8.out.size
            obtain ⟨a2, b2, d2, rfl, s1, s2, s3⟩ := hE2
            obtain ⟨xa2, da2, rfl⟩ := s1.shape
            obtain ⟨xb2, db2, rfl⟩ := s2.shape
            obtain ⟨xd2, dd2, rfl⟩ := s3.shape
            clear hf2 hb8 s1 s2 s3
            have HB8A := lhid (HB8.out.alloc hw8 (.cells #[.int .i64 f2.flags, .string (tx f2.name), .string (tx f2.desc), .int .i64 f2.stack, .int .i64 f2.locals, .slice xa2 f2.code.length da2, .slice xb2 f2.rows.length db2, .slice xd2 f2.frames.length dd2] 48))
            have HT8A := lhid (HT8.out.below ((Below.refl w8.heap.size w8).alloc (Nat.le_refl _) (.cells #[.int .i64 f2.flags, .string (tx f2.name), .string (tx f2.desc), .int .i64 f2.stack, .int .i64 f2.locals, .slice xa2 f2.code.length da2, .slice xb2 f2.rows.length db2, .slice xd2 f2.frames.length dd2] 48)))
            go_upto_region 29 with fail
            have HB9 := lhid (Below.refl (w8.alloc (.cells #[.int .i64 f2.flags, .string (tx f2.name), .string (tx f2.desc), .int .i64 f2.stack, .int .i64 f2.locals, .slice xa2 f2.code.length da2, .slice xb2 f2.rows.length db2, .slice xd2 f2.frames.length dd2] 48)).heap.size (w8.alloc (.cells #[.int .i64 f2.flags, .string (tx f2.name), .string (tx f2.desc), .int .i64 f2.stack, .int .i64 f2.locals, .slice xa2 f2.code.length da2, .slice xb2 f2.rows.length db2, .slice xd2 f2.frames.length dd2] 48)))
            generalize w8.alloc (.cells #[.int .i64 f2.flags, .string (tx f2.name), .string (tx f2.desc), .int .i64 f2.stack, .int .i64 f2.locals, .slice xa2 f2.code.length da2, .slice xb2 f2.rows.length db2, .slice xd2 f2.frames.length dd2] 48) = w9 at *
            have hw9 := HB8A.out.size
            have p1 : ∀ i, ¬ 9223372036854775807 < (⟨#[76]⟩ : ByteArray).size + (tx (nm i)).size := fun i => by rw [tx_size]; show ¬ _ < 1 + 3; omega
            have p2 : ∀ i, ¬ 9223372036854775807 < (⟨#[76]⟩ ++ tx (nm i) : ByteArray).size + (⟨#[59]⟩ : ByteArray).size := fun i => by rw [ByteArray.size_append, tx_size]; show ¬ _ < 1 + 3 + 1; omega
            have p10 := p1 0
            have p1j := p1 j
            have p20 := p2 0
            have p2j := p2 j
            clear p1 p2
            have T1 : Tells true (FitsP L (ofL (nm j)) (ofL (nm 0))) := ⟨⟨fun _ => by rw [← HLE.out]; exact chn_fits d hs hmk hlt, fun _ => rfl⟩⟩
            go_cut [12, 72, 150] from 72 to 151 (fun wv i r wx => i = .int .i64 j ∧ wv = .string (tx W) ∧ r = .bool false ∧ Hid (Below w9.heap.size w9 wx))
            case first =>
              cases q with
              | true =>
                have e0 : W = [] := by simpa using HQ.out
                have e1 : (tx W).toList = [] := by rw [tx_toL]; exact e0
                have e2 : (tx W).toList.isEmpty = true := by rw [e1]; rfl
                clear e0
                go_wp2_with fail
                with_reducible refine (name_any' j _ (lhid rfl) w9 (by omega)).mono ?_
                rintro e wa ⟨rfl, hba⟩
                have HTA := lhid (HT8A.out.below hba)
                have HBA2 := lhid hba
                clear hba
                go_wp2_with fail
                with_reducible refine (name_any' 0 0 (lhid rfl) wa (by omega)).mono ?_
                rintro e wb ⟨rfl, hbb⟩
                have HTB := lhid (HTA.out.below hbb)
                have HBB2 := lhid (HBA2.out.trans (Below.less hbb HBA2.out.size))
                clear hbb
                go_wp2_with fail
                with_reducible refine (fits_r _ tb L (ofL (nm j)) (ofL (nm 0)) _ _ true wb HTB (tx_L j) (tx_L 0) T1 (ofL_len j) (ofL_len 0)).mono ?_
                rintro e wf ⟨rfl, hbf⟩
                have HTF := lhid (HTB.out.below hbf)
                have HBF2 := lhid (HBB2.out.trans (Below.less hbf HBB2.out.size))
                clear hbf
                rcases Nat.eq_zero_or_pos j with h0 | h0
                · have hz : ¬ (j : Int) > 0 := by omega
                  clear h0
                  go_wp2_with fail
                  go_meet
                  exact ⟨rfl, rfl, rfl, HBF2⟩
                · have hz : (j : Int) > 0 := by omega
                  have T2 : Tells false (FitsP L (ofL (nm 0)) (ofL (nm j))) := ⟨⟨fun e => (by cases e), fun h => absurd h (by rw [← HLE.out]; exact chn_not d hs hmk hlt h0)⟩⟩
                  clear h0
                  go_wp2_with fail
                  with_reducible refine (name_any' 0 0 (lhid rfl) wf (by omega)).mono ?_
                  rintro e wg ⟨rfl, hbg⟩
                  have HTG := lhid (HTF.out.below hbg)
                  have HBG2 := lhid (HBF2.out.trans (Below.less hbg HBF2.out.size))
                  clear hbg
                  go_wp2_with fail
                  with_reducible refine (name_any' j _ (lhid rfl) wg (by omega)).mono ?_
                  rintro e wh ⟨rfl, hbh⟩
                  have HTH := lhid (HTG.out.below hbh)
                  have HBH2 := lhid (HBG2.out.trans (Below.less hbh HBG2.out.size))
                  clear hbh
                  go_wp2_with fail
                  with_reducible refine (fits_r _ tb L (ofL (nm 0)) (ofL (nm j)) _ _ false wh HTH (tx_L 0) (tx_L j) T2 (ofL_len 0) (ofL_len j)).mono ?_
                  rintro e wi ⟨rfl, hbi⟩
                  have HBI2 := lhid (HBH2.out.trans (Below.less hbi HBH2.out.size))
                  clear hbi
                  go_wp2_with fail
                  go_meet
                  exact ⟨rfl, rfl, rfl, HBI2⟩
              | false =>
                have e0 : ¬ W = [] := by simpa using HQ.out
                have e1 : ¬ (tx W).toList = [] := by rw [tx_toL]; exact e0
                have e2 : (tx W).toList.isEmpty = false := by rw [List.isEmpty_eq_false_iff]; exact e1
                clear e0
                go_wp2_with fail
                with_reducible refine (name_any' j _ (lhid rfl) w9 (by omega)).mono ?_
                rintro e wa ⟨rfl, hba⟩
                have HTA := lhid (HT8A.out.below hba)
                have HBA2 := lhid hba
                clear hba
                go_wp2_with fail
                with_reducible refine (name_any' 0 0 (lhid rfl) wa (by omega)).mono ?_
                rintro e wb ⟨rfl, hbb⟩
                have HTB := lhid (HTA.out.below hbb)
                have HBB2 := lhid (HBA2.out.trans (Below.less hbb HBA2.out.size))
                clear hbb
                go_wp2_with fail
                with_reducible refine (fits_r _ tb L (ofL (nm j)) (ofL (nm 0)) _ _ true wb HTB (tx_L j) (tx_L 0) T1 (ofL_len j) (ofL_len 0)).mono ?_
                rintro e wf ⟨rfl, hbf⟩
                have HTF := lhid (HTB.out.below hbf)
                have HBF2 := lhid (HBB2.out.trans (Below.less hbf HBB2.out.size))
                clear hbf
                rcases Nat.eq_zero_or_pos j with h0 | h0
                · have hz : ¬ (j : Int) > 0 := by omega
                  clear h0
                  go_wp2_with fail
                  go_meet
                  exact ⟨rfl, rfl, rfl, HBF2⟩
                · have hz : (j : Int) > 0 := by omega
                  have T2 : Tells false (FitsP L (ofL (nm 0)) (ofL (nm j))) := ⟨⟨fun e => (by cases e), fun h => absurd h (by rw [← HLE.out]; exact chn_not d hs hmk hlt h0)⟩⟩
                  clear h0
                  go_wp2_with fail
                  with_reducible refine (name_any' 0 0 (lhid rfl) wf (by omega)).mono ?_
                  rintro e wg ⟨rfl, hbg⟩
                  have HTG := lhid (HTF.out.below hbg)
                  have HBG2 := lhid (HBF2.out.trans (Below.less hbg HBF2.out.size))
                  clear hbg
                  go_wp2_with fail
                  with_reducible refine (name_any' j _ (lhid rfl) wg (by omega)).mono ?_
                  rintro e wh ⟨rfl, hbh⟩
                  have HTH := lhid (HTG.out.below hbh)
                  have HBH2 := lhid (HBG2.out.trans (Below.less hbh HBG2.out.size))
                  clear hbh
                  go_wp2_with fail
                  with_reducible refine (fits_r _ tb L (ofL (nm 0)) (ofL (nm j)) _ _ false wh HTH (tx_L 0) (tx_L j) T2 (ofL_len 0) (ofL_len j)).mono ?_
                  rintro e wi ⟨rfl, hbi⟩
                  have HBI2 := lhid (HBH2.out.trans (Below.less hbi HBH2.out.size))
                  clear hbi
                  go_wp2_with fail
                  go_meet
                  exact ⟨rfl, rfl, rfl, HBI2⟩
            case rest =>
              obtain ⟨rfl, rfl, rfl, HBX⟩ := hcut
              have HWE : Value.string (tx W) = .string (tx (wantP hs (j + 1))) := by rw [← HW.out]; rfl
              have HBZ : Hid (Below w2.heap.size w2 wc) := lhid (HBj.out.trans (Below.less (HB8A.out.trans (Below.less HBX.out hw9)) hbj))
              go_wp2_with fail
              go_roundw
              case rel => first | exact ⟨j + 1, by go_num, by omega, rfl, HBZ⟩ | exact ⟨j + 1, by go_num, by omega, HWE, HBZ⟩ | ((repeat apply Exists.intro); exact ⟨⟨j + 1, by go_num, by omega, HWE, HBZ⟩, rfl⟩)
              case measure => simp [intOf]; omega
        · have k4 : ¬ (j : Int) < hs.length := by have := HKE.out; omega
          go_wp2_with fail
          go_ret
          exact ⟨by rfl, HB2.out.trans (Below.less HBj.out hw2)⟩
end Go.Proofs.Ytkphpihggbbpkaa
