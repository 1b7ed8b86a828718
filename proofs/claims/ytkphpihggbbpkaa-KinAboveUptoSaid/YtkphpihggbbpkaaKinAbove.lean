/- The walk of KinAbove. -/
import Derived.Test.YtkphpihggbbpkaaKinStep
import Derived.Test.YtkphpihggbbpkaaKinAskC
import Derived.Laws.Cover1
import Derived.Deep.Cut
import Derived.Deep.CutRange
namespace Go.Proofs.Ytkphpihggbbpkaa
open Go.RowKit Go Go.Maps
set_option linter.unusedVariables false

/-- How often a text was met: each once. -/
def cntF (l : List Bs) (s : Bs) : Option Value := if s ∈ l then some (.int .i64 1) else none
theorem rises_not {l : List Bs} (h : l.Pairwise (fun x y => x < y)) {i : Nat} {x : Bs} (hx : l[i]? = some x) : x ∉ l.take i := by
  intro hm
  have h1 := h.sublist (List.take_sublist (i + 1) l)
  rw [List.take_add_one, hx, List.pairwise_append] at h1
  have := h1.2.2 x hm x (by simp)
  exact List.lt_irrefl _ this
theorem rises_lt {l : List Bs} (h : l.Pairwise (fun x y => x < y)) {j : Nat} {x y : Bs} (hy : l[j]? = some y) (hx : l[j + 1]? = some x) : y < x := by
  have := List.pairwise_iff_getElem.1 h j (j + 1) (List.getElem?_eq_some_iff.1 hy).1 (List.getElem?_eq_some_iff.1 hx).1 (by omega)
  rw [(List.getElem?_eq_some_iff.1 hy).2, (List.getElem?_eq_some_iff.1 hx).2] at this
  exact this
theorem one_str (W : World) (s : Bs) : RdX (fun _ => True) 1 StE (W.alloc (.cells #[.string (tx s)] 9)) (.slice (some ⟨W.heap.size, 0, none⟩) 1 1) [s] :=
  (rdX_own (E := StE) (l := [s]) (World.ownsRow_lit (base := W.heap.size) (e := 9) (size := 1) W #[.string (tx s)] 1 (Nat.le_refl _) (by unfold maxLen; omega) rfl) (by simp) (rows_tx _ [s])).any fun _ _ => trivial
theorem und_ci : Try.prog.underlying 39 = some (.map 9 3) := by kernel_rfl
theorem zero_int (w : World) : (zeroValue 3).run Try.prog w = .ok (.int .i64 0) w := by kernel_rfl
set_option maxHeartbeats 32000000 in
set_option maxRecDepth 100000 in
theorem KinAbove_walk (P : Nat → Prop) (v : Value) (l : List ClI) (w : World) (h : Hid (RdX P 7 (ClE P) w v l)) (hSh : Hid (Short l)) (hIF : Hid (∀ c ∈ ownL ++ l, c.ifaces.length ≤ 1048576)) :
    Calls Try.prog 3 #[v] w fun e w' => e = .returned (.bool true) ∧ Below w.heap.size w w' := by
  obtain ⟨A, cap, rfl⟩ := h.out.shape
  go_enter Try.func3, Try.ntmps3
  go_wp2_with fail
  with_reducible refine (holds_any _).mono ?_
  rintro e w1 ⟨rfl, hb1⟩
  have HB1 := lhid hb1
  have H1 := lhid (h.out.below (keptX_cl P) hb1)
  clear hb1
  go_wp2_with fail
  with_reducible refine (new_any P (.slice A l.length cap) l _ H1 hSh).mono ?_
  rintro e w2 ⟨hb2, x, hx, hcase⟩
  have HB2 := lhid (HB1.out.trans (Below.less hb2 HB1.out.size))
  have H2 := lhid (H1.out.below (keptX_cl P) hb2)
  have hw2 := HB2.out.size
  have HX := lhid hx
  clear hb2 hx
  rcases hcase with ⟨hx0, rfl⟩ | ⟨rfl, tb, rfl, hT⟩
  · go_wp2_with fail
    go_ret
    exact ⟨by rfl, HB2.out⟩
  have HT := lhid hT
  have HF := lhid (newE_zero HX.out)
  clear hT
  go_wp2_with fail
  with_reducible refine (light_any P (.slice A l.length cap) l _ H2).mono ?_
  rintro e w3 ⟨r, rfl, hb3⟩
  have HB3 := lhid (HB2.out.trans (Below.less hb3 hw2))
  have HT3 := lhid (HT.out.below hb3)
  have hw3 := HB3.out.size
  clear hb3
  cases r with
  | false =>
    go_wp2_with fail
    go_ret
    exact ⟨by rfl, HB3.out⟩
  | true =>
  have HCL := lhid (closed_all HF.out.2.1 HF.out.2.2.2.1)
  have HSL := lhid (short_all hSh.out)
  have HRO := lhid (rooted_all HF.out.2.2.2.1)
  have hLL : (ownL ++ l).length ≤ 100 := by rw [List.length_append, ownL_len]; have := HF.out.1; omega
  obtain ⟨L, hL⟩ : ∃ L, ownL ++ l = L := ⟨_, rfl⟩
  have HNC : Hid (∀ s ∈ names L, ¬ Circ L s) := lhid (by rw [← hL]; exact HF.out.2.2.2.2)
  have HOS : Hid (∀ c, findC L nObject = some c → c.super = []) := lhid (by rw [← hL]; exact fun c hc => obj_super hc)
  rw [hL] at HCL HSL HRO HT3 hLL hIF
  clear hL
  go_wp2_with fail
  with_reducible refine (names_any _ tb L _ HT3).mono ?_
  rintro e w4 ⟨v4, rfl, hr4, hb4⟩
  have HB4 := lhid (HB3.out.trans (Below.less hb4 hw3))
  have HT4 := lhid (HT3.out.below hb4)
  have hNL : (names L).length ≤ 100 := by unfold names; rw [List.length_map]; exact hLL
  have hw4 := HB4.out.size
  obtain ⟨A4, c4, rfl⟩ := hr4.shape
  have HR4 := lhid hr4
  clear hb4 hr4
  go_wp2_with fail
  go_loopw [34] (fun i wr => ∃ kk : Nat, i = .int .i64 kk ∧ kk ≤ (names L).length ∧ Hid (Below w4.heap.size w4 wr)) (fun i _ => (names L).length - (intOf i).toNat)
  case atStart => exact ⟨0, rfl, Nat.zero_le _, lhid (Below.refl _ _)⟩
  case round =>
    obtain ⟨kk, rfl, hkk, HB⟩ := hrel
    have hbs := HB.out.size
    by_cases hlt : kk < (names L).length
    · obtain ⟨n, hn⟩ : ∃ n, (names L)[kk]? = some n := ⟨_, List.getElem?_eq_getElem hlt⟩
      have hnn := List.mem_of_getElem? hn
      have hns := short_name HSL.out hnn
      obtain ⟨ga, oa, cc, rfl, _, hE, hc⟩ := (HR4.out.below (keptX_st _) HB.out).at' hn
      have c0 : wr.cell? ⟨ga, oa + kk, none⟩ = some (.string (tx n)) := by
        have := hc 0 (.string (tx n)) (by rw [show cc = [.string (tx n)] from hE]; rfl)
        rwa [Nat.mul_one] at this
      have k3 : (kk : Int) < (names L).length := by omega
      have HTr := lhid (HT4.out.below HB.out)
      clear hn hE hc
      go_wp2_with fail
      with_reducible refine (class_any _ tb L n _ HTr hns).mono ?_
      rintro e w5 ⟨cs, ok, rfl, hcv, hb5⟩
      obtain ⟨c, hE, hfc⟩ := hcv
      obtain ⟨y, hy⟩ := names_find hnn
      rcases hfc with ⟨hf, _⟩ | ⟨hf, rfl⟩
      · rw [hy] at hf; cases hf
      obtain ⟨a, p, b, d, rfl, r1, r2, r3, r4⟩ := hE
      obtain ⟨xa, da, rfl⟩ := r1.shape
      obtain ⟨xp, dp, rfl⟩ := r2.shape
      obtain ⟨xb, db, rfl⟩ := r3.shape
      obtain ⟨xd, dd, rfl⟩ := r4.shape
      have HFC := lhid hf
      have R1 := lhid r1
      have HB5 := lhid (HB.out.trans (Below.less hb5 hbs))
      have HT5 := lhid ((HTr.out.below hb5).below ((Below.refl _ _).alloc (Nat.le_refl _) (.cells #[.int .i64 c.flags, .string (tx c.name), .string (tx c.super), .slice xa c.ifaces.length da, .slice xp c.pool.length dp, .slice xb c.fields.length db, .slice xd c.methods.length dd] 35)))
      have HX5 := lhid (heap_alloc_new w5 (.cells #[.int .i64 c.flags, .string (tx c.name), .string (tx c.super), .slice xa c.ifaces.length da, .slice xp c.pool.length dp, .slice xb c.fields.length db, .slice xd c.methods.length dd] 35))
      have HBA := lhid ((Below.refl w5.heap.size w5).alloc (Nat.le_refl _) (.cells #[.int .i64 c.flags, .string (tx c.name), .string (tx c.super), .slice xa c.ifaces.length da, .slice xp c.pool.length dp, .slice xb c.fields.length db, .slice xd c.methods.length dd] 35))
      have hw5 := HB5.out.size
      have HIN : Hid (∀ z, n ∈ names L → Rch L n z → z ∈ names L) := lhid (fun z _ hz => rch_in HCL.out hnn hz)
      clear hf hy hb5 r1 r2 r3 r4 c0
      go_wp2_with fail
      generalize w5.alloc (.cells #[.int .i64 c.flags, .string (tx c.name), .string (tx c.super), .slice xa c.ifaces.length da, .slice xp c.pool.length dp, .slice xb c.fields.length db, .slice xd c.methods.length dd] 35) = w6 at *
      have hw6 := HBA.out.size
      with_reducible refine (above_any _ tb L n w6 HT5 hns hLL HSL.out HIN).mono ?_
      rintro e w7 ⟨v7, la, rfl, hr7, ⟨l0, hl0, hnd0⟩, hmem, hb7⟩
      obtain ⟨A7, c7, rfl⟩ := hr7.shape
      have HR7 := lhid hr7
      have HME := lhid hmem
      have HRI : Hid (la.Pairwise (fun x y => x < y)) := lhid (by rw [hl0]; exact sortB_rises l0 hnd0)
      have HB67 := lhid hb7
      have HX7 := lhid ((hb7.block _ (heap_lt HX5.out)).trans HX5.out)
      have HB7 := lhid ((HB5.out.trans (Below.less HBA.out hw5)).trans (Below.less hb7 (by omega)))
      have hw7 := HB7.out.size
      have hnla : n ∈ la := (hmem n).2 ⟨hnn, .refl _⟩
      have hlpos : 0 < la.length := List.length_pos_of_mem hnla
      have hla100 : la.length ≤ 100 := by
        have e1 := nodup_len la (names L) (HRI.out.imp (fun h e => by subst e; exact absurd h (List.lt_irrefl _))) (fun z hz => HIN.out z hnn ((hmem z).1 hz).2)
        omega
      have hlp : ¬ ((la.length : Int) = 0) := by omega
      have HNLA := lhid hnla
      have hmm := @run_makeMap Try.prog
      have HM0 := lhid (mv_made w7)
      clear hr7 hmem hb7 hl0 hnd0 hnla
      go_wp2_with fail
      clear hmm
      go_loopw [57] (fun i wr => ∃ ii : Nat, i = .int .i64 ii ∧ ii ≤ la.length ∧ Hid (MV wr w7.heap.size ii (cntF (la.take ii))) ∧ Hid (Below w7.heap.size w7 wr)) (fun i _ => la.length - (intOf i).toNat)
      case atStart => exact ⟨0, rfl, Nat.zero_le _, lhid (HM0.out.ext fun s => by simp [cntF]), lhid ((Below.refl _ _).alloc (Nat.le_refl _) _)⟩
      case round =>
        obtain ⟨ii, rfl, hii, HM, HBi⟩ := hrel
        have hbi := HBi.out.size
        have hmb := HM.out.lt
        by_cases hlt2 : ii < la.length
        · obtain ⟨x, hx⟩ : ∃ x, la[ii]? = some x := ⟨_, List.getElem?_eq_getElem hlt2⟩
          have hxm := List.mem_of_getElem? hx
          have hxl := short_name HSL.out (HIN.out x hnn ((HME.out x).1 hxm).2)
          have hxt : x ∉ la.take ii := rises_not HRI.out hx
          have HXT := lhid hxt
          have HTK := lhid (take_nextS hx)
          obtain ⟨ge, oe, ce, rfl, _, hE, hc⟩ := (HR7.out.below (keptX_st _) HBi.out).at' hx
          have c0 : wr.cell? ⟨ge, oe + ii, none⟩ = some (.string (tx x)) := by
            have := hc 0 (.string (tx x)) (by rw [show ce = [.string (tx x)] from hE]; rfl)
            rwa [Nat.mul_one] at this
          have k4 : (ii : Int) < la.length := by omega
          have HAi := lhid ((Below.refl _ _ : Below wr.heap.size wr wr))
          clear hE hc hxm hxt
          have q0 : (cntF (la.take ii) x).getD (.int .i64 0) = .int .i64 0 := by unfold cntF; rw [if_neg HXT.out]; rfl
          have HQ0 := lhid q0
          clear q0
          go_wp2_with (first | (at_lookup; refine wpList_look_mv _ rfl _ _ 39 rfl _ und_ci _ (zero_int _) w7.heap.size ii (cntF (la.take ii)) rfl HM.out x rfl hxl (.int .i64 0) HQ0.out ?_) | (at_mapUpdate; refine wpList_put_mv _ rfl _ _ _ 39 rfl _ und_ci w7.heap.size ii (cntF (la.take ii)) rfl HM.out (by unfold maxLen; omega) x rfl hxl (.int .i64 1) rfl ?_))
          intro w9 hm9 hg9 hs9
          have HM9 : Hid (MV w9 w7.heap.size (ii + 1) (cntF (la.take (ii + 1)))) := lhid (hm9.ext fun s => by
            unfold cntF
            rw [HTK.out]
            by_cases e : s = x
            · simp [e]
            · simp [e])
          have HB9 := lhid (Below.grown HBi.out hg9 hbi (fun k hk => by injection hk with hk; omega))
          clear hm9 hg9 hs9 c0
          rcases Nat.eq_zero_or_pos ii with h0 | hpos
          · have hz : ¬ ((ii : Int) > 0) := by omega
            clear h0
            go_wp2_with fail
            go_roundw
            case rel =>
              exact ⟨_, _, _, .int .i64 ((ii : Int) + 1), ⟨ii + 1, by go_num, by omega, HM9⟩, rfl, rfl, rfl, rfl⟩
            case measure => simp [intOf]; omega
          · obtain ⟨j, rfl⟩ : ∃ j, ii = j + 1 := ⟨ii - 1, by omega⟩
            obtain ⟨y, hy⟩ : ∃ y, la[j]? = some y := ⟨_, List.getElem?_eq_getElem (by omega)⟩
            have hyx : y < x := rises_lt HRI.out hy hx
            obtain ⟨gf, of, cf, hA, _, hE, hc⟩ := (HR7.out.below (keptX_st _) HB9.out).at' hy
            injection hA with hA
            injection hA with e1 e2
            subst e1
            subst e2
            have c1 : w9.cell? ⟨ge, oe + j, none⟩ = some (.string (tx y)) := by
              have := hc 0 (.string (tx y)) (by rw [show cf = [.string (tx y)] from hE]; rfl)
              rwa [Nat.mul_one] at this
            have k5 : (j : Int) < la.length := by omega
            have hge : Op.bytesLess (tx y).toList (tx x).toList = true := by rw [tx_toL, tx_toL, bytesLess_eq, decide_eq_true hyx]
            go_wp2_with fail
            go_roundw
            case rel =>
              exact ⟨_, _, _, .int .i64 ((j : Int) + 1 + 1), ⟨j + 1 + 1, by go_num, by omega, HM9⟩, rfl, rfl, rfl, rfl⟩
            case measure => simp [intOf]; omega
        · have k4 : ¬ (ii : Int) < la.length := by omega
          have e : ii = la.length := by omega
          subst e
          rw [List.take_length] at HM
          have hobj : nObject ∈ la := (HME.out _).2 ⟨hnn, above_object HRO.out HNC.out hnn⟩
          have hlk1 : (Instr.lookup 39 (.map (some w7.heap.size)) (.string (tx n)) false).run Try.prog wr = .ok (.int .i64 1) wr := by
            have := (HM.out.look und_ci (zero_int wr) hns).1
            rw [show cntF la n = some (.int .i64 1) by unfold cntF; rw [if_pos HNLA.out]] at this
            exact this
          have hlk2 : (Instr.lookup 39 (.map (some w7.heap.size)) (.string ⟨#[79, 98, 106, 101, 99, 116]⟩) false).run Try.prog wr = .ok (.int .i64 1) wr := by
            have := (HM.out.look und_ci (zero_int wr) (s := nObject) (by decide)).1
            rw [show cntF la nObject = some (.int .i64 1) by unfold cntF; rw [if_pos hobj]] at this
            exact this
          clear hobj
          go_upto_region 23 with fail
          clear hlk1 hlk2
          obtain ⟨ps, hps⟩ : ∃ ps, c.ifaces ++ [c.super] = ps := ⟨_, rfl⟩
          have hpl : ps.length = c.ifaces.length + 1 := by rw [← hps]; simp
          have HPS : Hid (∀ q ∈ ps, q = c.super ∨ q ∈ c.ifaces) := lhid fun q hq => by
            rw [← hps] at hq
            rcases List.mem_append.1 hq with hq | hq
            · exact .inr hq
            · simp at hq; exact .inl hq
          have HPE := lhid hps
          have HPL := lhid hpl
          have hpl9 : ps.length ≤ 1048577 := by have := hIF.out c (findC_some HFC.out).1; omega
          clear hps hpl
          go_cut [34, 93, 94, 95] from 34 to 120 (fun k v n i wx => ∃ (A : Option Addr) (cp : Nat), k = .int .i64 kk ∧ v = .slice A ps.length cp ∧ n = .int .i64 ps.length ∧ i = .int .i64 0 ∧ Hid (RdX (fun g => wr.heap.size ≤ g) 1 StE wx v ps) ∧ Hid (Below wr.heap.size wr wx))
          case first =>
            obtain ⟨i0, hi, hz0, hz1, hz2⟩ := info_parts info_st
            have hxr := (HBi.out.block _ (heap_lt HX7.out)).trans HX7.out
            have hrl := heap_lt hxr
            have R1r := lhid (((R1.out.below (keptX_st _) HBA.out).below (keptX_st _) HB67.out).below (keptX_st _) HBi.out)
            have R1a := lhid (R1r.out.below (keptX_st _) ((Below.refl _ _).alloc (Nat.le_refl wr.heap.size) (.cells #[.string (tx c.super)] 9)))
            have hio : c.ifaces.length ≤ 4294967296 := R1r.out.len
            have x2 := heap_cell (i := 2) hxr rfl
            have x3 := heap_cell (i := 3) hxr rfl
            have hxa := (Below.heap_alloc wr (.cells #[.string (tx c.super)] 9) _ hrl).trans hxr
            have x2a := heap_cell (i := 2) hxa rfl
            have x3a := heap_cell (i := 3) hxa rfl
            have HXA := lhid hxa
            have HXR := lhid hxr
            clear hxa hxr
            go_region_law (first
                            | (refine step_append_rd rfl (.const (.slice none 0 0)) (.tmp 88) 29 rfl wr.heap.size 9 i0 (.string ⟨#[]⟩) 1 16 Try.underlying29 hi hz0 hz1 hz2 rfl (by decide) (.slice none 0 0) 0 [] rfl (World.ownsRow_nil _ _ _ _) row_st (.slice xa c.ifaces.length da) c.ifaces rfl (by first | exact R1r.out | exact R1a.out) (by omega) (by decide) (by first | exact Nat.le_refl _ | (show wr.heap.size ≤ (wr.alloc (.cells #[.string (tx c.super)] 9)).heap.size; simp)) ?_
                               intro v10 w10 ys10 hown10 hrow10 hgrow10
                               simp only [Nat.zero_add, List.nil_append] at hown10
                               have y2 : w10.cell? ⟨w5.heap.size, 2, none⟩ = some (.string (tx c.super)) := by first | exact (cell_heap (hgrow10.block _ hrl (by simp [Value.ownBlock])) 2).trans x2 | exact (cell_heap (hgrow10.block _ (by show _ < (wr.alloc (.cells #[.string (tx c.super)] 9)).heap.size; simp; omega) (by simp [Value.ownBlock])) 2).trans x2a)
                            | (refine step_append_rd (P := fun _ => True) rfl (.tmp 89) (.tmp 92) 29 rfl wr.heap.size 9 i0 (.string ⟨#[]⟩) 1 16 Try.underlying29 hi hz0 hz1 hz2 rfl (by decide) v10 c.ifaces.length ys10 rfl (hown10.alloc _) row_st (.slice (some ⟨w10.heap.size, 0, none⟩) 1 1) [c.super] rfl (one_str w10 _) (by simp; omega) (by decide) (by have := hgrow10.size; simp at this ⊢; omega) ?_
                               intro v11 w11 ys11 hown11 hrow11 hgrow11
                               obtain ⟨A11, c11, rfl⟩ := own_shape hown11)
                            | (refine step_append_rd (P := fun _ => True) rfl (.tmp 89) (.tmp 92) 29 rfl wr.heap.size 9 i0 (.string ⟨#[]⟩) 1 16 Try.underlying29 hi hz0 hz1 hz2 rfl (by decide) v10 c.ifaces.length ys10 rfl (hown10) row_st (.slice (some ⟨wr.heap.size, 0, none⟩) 1 1) [c.super] rfl (by first | exact (one_str wr _).below (keptX_st _) (Below.grown (Below.refl _ _) hgrow10 (Nat.le_refl _) (fun k hk => by cases hk)) | exact (one_str wr c.super).below (keptX_st _) (Below.grown (Below.drew' (Below.refl _ (wr.alloc (.cells #[.string (tx c.super)] 9)))) hgrow10 (Nat.le_refl _) (fun k hk => by cases hk))) (by simp; omega) (by decide) (by have := hgrow10.size; simp at this ⊢; omega) ?_
                               intro v11 w11 ys11 hown11 hrow11 hgrow11
                               obtain ⟨A11, c11, rfl⟩ := own_shape hown11))
            all_goals
              have h10 : Below wr.heap.size wr w10 := by first | exact Below.grown (Below.refl _ _) hgrow10 (Nat.le_refl _) (fun k hk => by cases hk) | exact Below.grown (Below.drew' (Below.refl _ wr)) hgrow10 (Nat.le_refl _) (fun k hk => by cases hk) | exact Below.grown ((Below.refl _ wr).alloc (Nat.le_refl _) (.cells #[.string (tx c.super)] 9)) hgrow10 (by simp) (fun k hk => by cases hk) | exact Below.grown (Below.drew' ((Below.refl _ wr).alloc (Nat.le_refl _) (.cells #[.string (tx c.super)] 9))) hgrow10 (by show _ ≤ (wr.alloc (.cells #[.string (tx c.super)] 9)).heap.size; simp) (fun k hk => by cases hk)
              have hs10 := h10.size
              have h11 : Below wr.heap.size wr w11 := by first | exact Below.grown h10 hgrow11 hs10 (own_lt hown10) | exact Below.grown (h10.alloc hs10 (.cells #[.string (tx c.super)] 9)) hgrow11 (by simp; omega) (own_lt hown10) | exact Below.grown (Below.drew' h10) hgrow11 hs10 (own_lt hown10) | exact Below.grown (Below.drew' (h10.alloc hs10 (.cells #[.string (tx c.super)] 9))) hgrow11 (by show _ ≤ (w10.alloc (.cells #[.string (tx c.super)] 9)).heap.size; simp; omega) (own_lt hown10)
              have hpl2 : c.ifaces.length + [c.super].length = ps.length := HPL.out.symm
              have hRP : RdX (fun g => wr.heap.size ≤ g) 1 StE w11 (.slice A11 ps.length c11) ps := by
                have hrr : RowsE 1 (StE w11) ps (ys10 ++ ys11) := by
                  rw [← HPE.out]
                  exact RowsE.app (hrow10.imp fun _ _ h => h) (hrow11.imp fun _ _ h => h)
                have hown12 : w11.ownsRow wr.heap.size 9 1 (.slice A11 ps.length c11) ps.length (ys10 ++ ys11) := by
                  rw [← hpl2]
                  exact hown11
                exact (rdX_own (E := StE) (l := ps) hown12 (by omega) hrr).any (fun g hg => hg.1)
              have HRP := lhid hRP
              have H11 := lhid h11
              clear h10 h11 hs10 hrow10 hrow11 hown10 hown11 hgrow10 hgrow11 hRP x2 x3 x2a x3a y2
              clear hpl2
            all_goals go_wp2_with fail
            all_goals go_meet
            all_goals refine ⟨A11, c11, rfl, ?_, ?_, rfl, ?_, H11⟩
            all_goals first | rfl | (rw [HPL.out]; rfl) | (rw [← HPL.out]; exact HRP) | simp [HPL.out]
          case rest =>
            obtain ⟨A11, c11, rfl, rfl, rfl, rfl, HRP, H11⟩ := hcut
            have HM11 := lhid (HM.out.below H11.out)
            have HT11 := lhid ((((HT5.out.below HB67.out).below HBi.out)).below H11.out)
            have HBW : Hid (Below w4.heap.size w4 wc) := lhid ((HB7.out.trans (Below.less HBi.out hw7)).trans (Below.less H11.out (by omega)))
            have hw11 := HBW.out.size
            go_wp2_with fail
            go_loopw [95] (fun i wr => ∃ jj : Nat, i = .int .i64 jj ∧ jj ≤ ps.length ∧ Hid (Below wc.heap.size wc wr)) (fun i _ => ps.length - (intOf i).toNat)
            case atStart => exact ⟨0, rfl, Nat.zero_le _, lhid (Below.refl _ _)⟩
            case round =>
              obtain ⟨jj, rfl, hjj, HBj⟩ := hrel
              have hbj := HBj.out.size
              by_cases hlt3 : jj < ps.length
              · obtain ⟨p, hp⟩ : ∃ p, ps[jj]? = some p := ⟨_, List.getElem?_eq_getElem hlt3⟩
                have hpm := List.mem_of_getElem? hp
                obtain ⟨gp, op, cp, rfl, _, hE, hc⟩ := (HRP.out.below (keptX_st _) HBj.out).at' hp
                have c0 : wr.cell? ⟨gp, op + jj, none⟩ = some (.string (tx p)) := by
                  have := hc 0 (.string (tx p)) (by rw [show cp = [.string (tx p)] from hE]; rfl)
                  rwa [Nat.mul_one] at this
                have k6 : (jj : Int) < ps.length := by omega
                have HPM := lhid hpm
                clear hp hE hc hpm
                by_cases hpn : p = []
                · have hq1 : (tx p).toList = [] := by rw [tx_toL]; exact hpn
                  have hq2 : (tx p).toList.isEmpty = true := by rw [hq1]; rfl
                  clear hpn
                  go_wp2_with fail
                  go_roundw
                  case rel => first | exact ⟨jj + 1, by go_num, by omega, HBj⟩ | exact ⟨_, _, _, .int .i64 ((jj : Int) + 1), ⟨jj + 1, by go_num, by omega, HBj⟩, rfl, rfl, rfl, rfl⟩ | ((repeat apply Exists.intro); exact ⟨⟨jj + 1, by go_num, by omega, HBj⟩, rfl⟩)
                  case measure => simp [intOf]; omega
                · have hpo := par_of HCL.out HRO.out HOS.out HFC.out (HPS.out p HPM.out) hpn
                  have hps := short_name HSL.out hpo.1
                  have hq1 : ¬ (tx p).toList = [] := by rw [tx_toL]; exact hpn
                  have hq2 : (tx p).toList.isEmpty = false := by cases h : p with | nil => exact absurd h hpn | cons a r => rw [tx_toL]; rfl
                  have HPO := lhid hpo
                  have HTj := lhid (HT11.out.below HBj.out)
                  have HINP : Hid (∀ z, p ∈ names L → Rch L p z → z ∈ names L) := lhid (fun z hz hr => rch_in HCL.out hz hr)
                  clear hpo hpn
                  go_wp2_with fail
                  with_reducible refine (above_any _ tb L p wr HTj hps hLL HSL.out HINP).mono ?_
                  rintro e w12 ⟨v12, lb, rfl, hr12, _, hmem2, hb12⟩
                  obtain ⟨A12, c12, rfl⟩ := hr12.shape
                  have HR12 := lhid hr12
                  have HME2 := lhid hmem2
                  have HB12 := lhid (HBj.out.trans (Below.less hb12 hbj))
                  have HM12 := lhid ((HM11.out.below HBj.out).below hb12)
                  have hw12 := HB12.out.size
                  have hlb := hr12.len
                  clear hr12 hmem2 hb12 c0 hq1 hq2
                  go_wp2_with fail
                  go_loopw [105] (fun i wr => ∃ qq : Nat, i = .int .i64 qq ∧ qq ≤ lb.length ∧ Hid (Below w12.heap.size w12 wr)) (fun i _ => lb.length - (intOf i).toNat)
                  case atStart => exact ⟨0, rfl, Nat.zero_le _, lhid (Below.refl _ _)⟩
                  case round =>
                    obtain ⟨qq, rfl, hqq, HBq⟩ := hrel
                    have hbq := HBq.out.size
                    by_cases hlt4 : qq < lb.length
                    · obtain ⟨x, hx⟩ : ∃ x, lb[qq]? = some x := ⟨_, List.getElem?_eq_getElem hlt4⟩
                      have hxr := ((HME2.out x).1 (List.mem_of_getElem? hx)).2
                      have hxla : x ∈ la := (HME.out x).2 ⟨hnn, .step HPO.out.2 hxr⟩
                      have hxn : ¬ x = n := fun e => HNC.out n hnn ⟨p, HPO.out.2, by rw [← e]; exact hxr⟩
                      have hxl := short_name HSL.out (rch_in HCL.out HPO.out.1 hxr)
                      obtain ⟨gx, ox, cx, rfl, _, hE, hc⟩ := (HR12.out.below (keptX_st _) HBq.out).at' hx
                      have c0 : wr.cell? ⟨gx, ox + qq, none⟩ = some (.string (tx x)) := by
                        have := hc 0 (.string (tx x)) (by rw [show cx = [.string (tx x)] from hE]; rfl)
                        rwa [Nat.mul_one] at this
                      have k7 : (qq : Int) < lb.length := by omega
                      have hlk : ∀ w', Below wr.heap.size wr w' → (Instr.lookup 39 (.map (some w7.heap.size)) (.string (tx x)) false).run Try.prog w' = .ok (.int .i64 1) w' := fun w' hb' => by
                        have := (((HM12.out.below HBq.out).below hb').look und_ci (zero_int w') hxl).1
                        rw [show cntF la x = some (.int .i64 1) by unfold cntF; rw [if_pos hxla]] at this
                        exact this
                      have hlk0 := hlk wr (Below.refl _ _)
                      have hlk1 := hlk wr.drew (Below.drew' (Below.refl _ _))
                      have hxe := tx_nes hxn
                      clear hx hE hc hxr hxla hxn hlk
                      go_wp2_with fail
                      go_roundw
                      case rel => first | exact ⟨qq + 1, by go_num, by omega, HBq⟩ | exact ⟨_, _, _, .int .i64 ((qq : Int) + 1), ⟨qq + 1, by go_num, by omega, HBq⟩, rfl, rfl, rfl, rfl⟩ | ((repeat apply Exists.intro); exact ⟨⟨qq + 1, by go_num, by omega, HBq⟩, rfl⟩)
                      case measure => simp [intOf]; omega
                    · have k7 : ¬ (qq : Int) < lb.length := by omega
                      go_wp2_with fail
                      go_roundw
                      case rel => first | exact ⟨jj + 1, by go_num, by omega, lhid (HB12.out.trans (Below.less HBq.out hw12))⟩ | exact ⟨_, _, _, .int .i64 ((jj : Int) + 1), ⟨jj + 1, by go_num, by omega, lhid (HB12.out.trans (Below.less HBq.out hw12))⟩, rfl, rfl, rfl, rfl⟩ | ((repeat apply Exists.intro); exact ⟨⟨jj + 1, by go_num, by omega, lhid (HB12.out.trans (Below.less HBq.out hw12))⟩, rfl⟩)
                      case measure => simp [intOf]; omega
              · have k6 : ¬ (jj : Int) < ps.length := by omega
                go_wp2_with fail
                go_roundw
                case rel => first | exact ⟨kk + 1, by go_num, by omega, lhid (HBW.out.trans (Below.less HBj.out hw11))⟩ | exact ⟨_, _, _, .int .i64 ((kk : Int) + 1), ⟨kk + 1, by go_num, by omega, lhid (HBW.out.trans (Below.less HBj.out hw11))⟩, rfl, rfl, rfl, rfl⟩ | ((repeat apply Exists.intro); exact ⟨⟨kk + 1, by go_num, by omega, lhid (HBW.out.trans (Below.less HBj.out hw11))⟩, rfl⟩)
                case measure => simp [intOf]; omega
    · have k3 : ¬ (kk : Int) < (names L).length := by omega
      go_wp2_with fail
      go_ret
      exact ⟨by rfl, HB4.out.trans (Below.less HB.out hw4)⟩
end Go.Proofs.Ytkphpihggbbpkaa
