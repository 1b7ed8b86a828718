/- Texts of this claim, joined: KinNew, KinAsk, KinRoot, KinLine, KinField, KinAskC. -/
import Derived.Test.YtpdnonlelocfbaaGreatDoorJKinEnter
import Derived.Test.YtpdnonlelocfbaaGreatDoorM12
import Derived.Test.YtpdnonlelocfbaaGreatDoorM13
import Derived.Test.YtpdnonlelocfbaaGreatDoorM14
import Derived.Deep.RegionLaw
import Derived.BigRegion
/- New: a tree of classes, or what is wrong. -/
namespace Go.Proofs.YtpdnonlelocfbaaGreatDoor
open Go.RowKit Go Go.Maps
set_option linter.unusedVariables false

/-- May the classes of l have the parents and the interfaces that they name? -/
def KinOK (L l : List ClI) : Prop := ∀ c ∈ l, mayB L c c.super = true ∧ AreI L c.ifaces
/-- What New answers of l. -/
def NewE (l : List ClI) (x : Int) : Prop :=
  (40 < l.length ∧ x = 2) ∨ (l.length ≤ 40 ∧ ((l.any misB = true ∧ x = 20) ∨ (l.any misB = false ∧ ((¬ (names (ownL ++ l)).Nodup ∧ x = 23) ∨ ((names (ownL ++ l)).Nodup ∧ ((¬ KinOK (ownL ++ l) l ∧ x = 50) ∨ (KinOK (ownL ++ l) l ∧ (((∃ s ∈ names (ownL ++ l), Circ (ownL ++ l) s) ∧ x = 51) ∨ ((∀ s ∈ names (ownL ++ l), ¬ Circ (ownL ++ l) s) ∧ x = 0)))))))))
/-- Block tb is the tree of the classes L. -/
structure TreeOK (B : Nat) (w : World) (tb : Nat) (L : List ClI) : Prop where
  it : ∃ cb ab n v, Tr w tb cb ab v ∧ RdX (fun g => B ≤ g) 1 StE w v (names L) ∧ CM (fun g => B ≤ g) w cb L ∧ AM (fun g => B ≤ g) w ab n L (fun s => s ∈ names L)
  lt : B ≤ tb
def NewOut (l : List ClI) (w : World) (e : Ending) (w' : World) : Prop :=
  Below w.heap.size w w' ∧ ∃ x, NewE l x ∧ ((x ≠ 0 ∧ e = .returned (.tuple #[.pointer none, .int .i64 x])) ∨ (x = 0 ∧ ∃ tb, e = .returned (.tuple #[.pointer (some ⟨tb, 0, none⟩), .int .i64 0]) ∧ TreeOK w.heap.size w' tb (ownL ++ l)))
theorem cm_nil (Q : Nat → Prop) {w : World} {cb : Nat} (h : MV w cb 0 (fun _ => none)) : CM Q w cb [] := ⟨_, h, fun s => ⟨fun _ => rfl, fun c h => (by cases h)⟩⟩
theorem own_names : ∀ c ∈ ownL, c.name.length ≤ 60 ∧ c.super.length ≤ 60 ∧ c.ifaces = [] ∧ c.name ≠ [] := by
  intro c hc
  obtain ⟨c0, hc0, rfl⟩ := List.mem_map.1 hc
  simp only [own0, List.mem_cons, List.not_mem_nil, or_false] at hc0
  rcases hc0 with rfl | rfl | rfl | rfl | rfl | rfl | rfl | rfl | rfl | rfl | rfl | rfl | rfl <;> exact ⟨by decide, by decide, rfl, by decide⟩
theorem short_all {l : List ClI} (h : Short l) : Short (ownL ++ l) := by
  intro c hc
  rcases List.mem_append.1 hc with hc | hc
  · have := own_names c hc
    refine ⟨by unfold maxLen; omega, by unfold maxLen; omega, fun i hi => ?_⟩
    rw [this.2.2.1] at hi
    cases hi
  · exact h c hc
theorem closed_all {l : List ClI} (hm : l.any misB = false) (hk : KinOK (ownL ++ l) l) : Closed (ownL ++ l) := by
  constructor
  · intro c hc i hi
    rcases List.mem_append.1 hc with hc | hc
    · rw [(own_names c hc).2.2.1] at hi
      cases hi
    · have := (hk c hc).2.2 i hi
      unfold isI at this
      cases hf : findC (ownL ++ l) i with
      | none => rw [hf] at this; cases this
      | some y => exact find_names hf
  · intro h
    obtain ⟨c, hc, he⟩ := List.mem_map.1 h
    rcases List.mem_append.1 hc with hc | hc
    · exact (own_names c hc).2.2.2 he
    · have := List.any_eq_false.1 hm c hc
      unfold misB nameB at this
      rw [he] at this
      simp at this
theorem hasKin_cs (Q P : Nat → Prop) (L : List ClI) (tb cb ab : Nat) (v0 : Value) (c : ClI) (cs : List Value) (w : World) (hT : Hid (Tr w tb cb ab v0)) (hC : Hid (CM Q w cb L)) (h : Hid (ClE P w c cs)) (hs : c.super.length ≤ maxLen) (hi : Hid (∀ n ∈ c.ifaces, n.length ≤ maxLen)) :
    Calls Tryz.prog 46 #[.pointer (some ⟨tb, 0, none⟩), .agg cs.toArray] w fun e w' => ∃ r : Bool, e = .returned (.bool r) ∧ (r = true ↔ mayB L c c.super = true ∧ AreI L c.ifaces) ∧ Below w.heap.size w w' := by
  obtain ⟨a, p, b, d, rfl, ha, _⟩ := h.out
  exact hasKin_any Q P L tb cb ab v0 c a p b d w hT hC (lhid ha) hs hi
theorem ownL_len : ownL.length = 13 := rfl
set_option maxHeartbeats 16000000 in
set_option maxRecDepth 100000 in
theorem new_any (P : Nat → Prop) (v : Value) (l : List ClI) (w : World) (h : Hid (RdX P 7 (ClE P) w v l)) (hSh : Hid (Short l)) :
    Calls Tryz.prog 14 #[v] w (NewOut l w) := by
  obtain ⟨A, cap, rfl⟩ := h.out.shape
  have hlen := h.out.len
  by_cases h40 : 40 < l.length
  · have q : (l.length : Int) > 40 := by omega
    go_enter Tryz.func14, Tryz.ntmps14
    go_wp2_with fail
    go_ret2
    exact ⟨Below.refl _ _, 2, .inl ⟨h40, rfl⟩, .inl ⟨by decide, rfl⟩⟩
  have q : ¬ (l.length : Int) > 40 := by omega
  have hl40 : l.length ≤ 40 := by omega
  have hmm := @run_makeMap Tryz.prog
  have HNL : Hid (∀ c ∈ l, c.name.length ≤ maxLen) := lhid (fun c hc => (hSh.out c hc).1)
  go_enter Tryz.func14, Tryz.ntmps14
  go_wp2_with fail
  with_reducible refine (containsMis_any P (.slice A l.length cap) l _ h HNL).mono ?_
  rintro e w1 ⟨rfl, hb1⟩
  have HB1 := lhid hb1
  clear hb1
  cases hm : l.any misB with
  | true =>
    have HM := lhid hm
    clear hm
    go_wp2_with fail
    go_ret2
    exact ⟨HB1.out, 20, .inr ⟨hl40, .inl ⟨HM.out, rfl⟩⟩, .inl ⟨by decide, rfl⟩⟩
  | false =>
    have HM := lhid hm
    clear hm
    have HT0 : Hid (Tr (((w1.alloc (.map #[] 0)).alloc (.map #[] 0)).alloc (.cells #[.slice none 0 0, .map (some w1.heap.size), .map (some (w1.heap.size + 1))] 100)) (w1.heap.size + 1 + 1) w1.heap.size (w1.heap.size + 1) (.slice none 0 0)) := lhid (by
      have := heap_alloc_new ((w1.alloc (.map #[] 0)).alloc (.map #[] 0)) (.cells #[.slice none 0 0, .map (some w1.heap.size), .map (some (w1.heap.size + 1))] 100)
      simpa [Tr] using this)
    have HC0 := lhid (((mv_made w1).alloc (.map #[] 0)).alloc (.cells #[.slice none 0 0, .map (some w1.heap.size), .map (some (w1.heap.size + 1))] 100))
    have HA0 : Hid (MV (((w1.alloc (.map #[] 0)).alloc (.map #[] 0)).alloc (.cells #[.slice none 0 0, .map (some w1.heap.size), .map (some (w1.heap.size + 1))] 100)) (w1.heap.size + 1) 0 (fun _ => none)) := lhid (by
      have := (mv_made (w1.alloc (.map #[] 0))).alloc (.cells #[.slice none 0 0, .map (some w1.heap.size), .map (some (w1.heap.size + 1))] 100)
      simpa using this)
    have HB2 : Hid (Below w1.heap.size w1 (((w1.alloc (.map #[] 0)).alloc (.map #[] 0)).alloc (.cells #[.slice none 0 0, .map (some w1.heap.size), .map (some (w1.heap.size + 1))] 100))) := lhid ((((Below.refl _ _).alloc (Nat.le_refl _) _).alloc (by simp) _).alloc (by simp; omega) _)
    have HSZ2 : Hid ((((w1.alloc (.map #[] 0)).alloc (.map #[] 0)).alloc (.cells #[.slice none 0 0, .map (some w1.heap.size), .map (some (w1.heap.size + 1))] 100)).heap.size = w1.heap.size + 3) := lhid (by simp)
    have hw1 := HB1.out.size
    have hsz2 := HSZ2.out
    go_wp2_with fail
    generalize (((w1.alloc (.map #[] 0)).alloc (.map #[] 0)).alloc (.cells #[.slice none 0 0, .map (some w1.heap.size), .map (some (w1.heap.size + 1))] 100)) = w2 at *
    with_reducible refine (ownClasses_any w2).mono ?_
    rintro e w3 ⟨v3, rfl, hr3, hb3⟩
    obtain ⟨A3, c3, rfl⟩ := hr3.shape
    have hs3 := hb3.size
    have HB3 := lhid (HB2.out.trans (Below.less hb3 (by omega)))
    have HT3 := lhid (HT0.out.below hb3)
    have HC3 := lhid (HC0.out.below hb3)
    have HA3 := lhid (HA0.out.below hb3)
    have hB4 := (Below.refl w3.heap.size w3).alloc (Nat.le_refl _) (.cells #[.slice A3 ownL.length c3, .slice A l.length cap] 22)
    have HB4 := lhid hB4
    have HG4 := lhid (heap_alloc_new w3 (.cells #[.slice A3 ownL.length c3, .slice A l.length cap] 22))
    have HL1 := lhid ((hr3.below (keptX_cl _) hB4).mono (Q := fun g => g ≠ w1.heap.size + 1 + 1 ∧ g ≠ w1.heap.size) (E' := ClE fun g => g ≠ w1.heap.size + 1 + 1 ∧ g ≠ w1.heap.size) (clE_mono fun g hg _ => by constructor <;> omega) (fun g hg _ => by constructor <;> omega) cl_ne)
    have HL2 := lhid ((((h.out.mono (Q := fun g => g < w.heap.size) (E' := ClE fun g => g < w.heap.size) (clE_mono fun g _ hl => hl) (fun g _ hl => hl) cl_ne).below (keptX_cl _) HB1.out).below (keptX_cl _) (HB3.out.trans (Below.less hB4 (by omega)))).mono (Q := fun g => g ≠ w1.heap.size + 1 + 1 ∧ g ≠ w1.heap.size) (E' := ClE fun g => g ≠ w1.heap.size + 1 + 1 ∧ g ≠ w1.heap.size) (clE_mono fun g hg _ => by constructor <;> omega) (fun g hg _ => by constructor <;> omega) cl_ne)
    have HT4 := lhid (HT3.out.below hB4)
    have HC4 := lhid (HC3.out.below hB4)
    have HA4 := lhid (HA3.out.below hB4)
    clear hb3 hr3 hB4 hmm
    go_wp2_with fail
    generalize w3.alloc (.cells #[.slice A3 ownL.length c3, .slice A l.length cap] 22) = w4 at *
    have hs4 := HB4.out.size
    with_reducible refine (concat_cl (P := fun g => g ≠ w1.heap.size + 1 + 1 ∧ g ≠ w1.heap.size) (E := ClE fun g => g ≠ w1.heap.size + 1 + 1 ∧ g ≠ w1.heap.size) (row_cl _) w3.heap.size ownL l (.slice A3 ownL.length c3) (.slice A l.length cap) w4 HG4 HL1 HL2 2).mono ?_
    rintro e w5 ⟨v5, xs5, rfl, ho5, hr5, hb5⟩
    have hs5 := hb5.size
    have hll : (ownL ++ l).length ≤ 60 := by rw [List.length_append, ownL_len]; omega
    have HRD := lhid ((rdX_own (E := ClE fun g => g ≠ w1.heap.size + 1 + 1 ∧ g ≠ w1.heap.size) ho5 (by omega) (hr5.imp fun a c hc => keptX_cl _ _ _ _ _ (fun g _ hl => hb5.block g hl) hc)).mono (Q := fun g => g ≠ w1.heap.size + 1 + 1 ∧ g ≠ w1.heap.size ∧ g < w5.heap.size) (E' := ClE fun g => g ≠ w1.heap.size + 1 + 1 ∧ g ≠ w1.heap.size ∧ g < w5.heap.size) (clE_mono fun g hg hl => ⟨hg.1, hg.2, hl⟩) (fun g hg hl => ⟨by have := hg.1; omega, by have := hg.1; omega, hl⟩) cl_ne)
    have HT5 := lhid (HT4.out.below hb5)
    have HC5 := lhid (HC4.out.below hb5)
    have HA5 := lhid (HA4.out.below hb5)
    have HB5 : Hid (Below w1.heap.size w1 w5) := lhid ((HB3.out.trans (Below.less HB4.out (by omega))).trans (Below.less hb5 (by omega)))
    have HNS : Hid (∀ c ∈ ownL ++ l, c.name.length ≤ maxLen) := lhid (fun c hc => (short_all hSh.out c hc).1)
    clear hb5 ho5 hr5
    go_wp2_with fail
    with_reducible refine (enter_any (fun g => g ≠ w1.heap.size + 1 + 1 ∧ g ≠ w1.heap.size ∧ g < w5.heap.size) (w1.heap.size + 1 + 1) w1.heap.size (w1.heap.size + 1) v5 (ownL ++ l) w5 HRD (lhid (fun g hg => hg)) HT5 (lhid (cm_nil _ HC5.out)) (by omega) hll HNS).mono ?_
    rintro e w6 ⟨hch6, hcase⟩
    have HCh6 := lhid hch6
    have hs6 := hch6.size
    have HB6 : Hid (Below w1.heap.size w1 w6) := lhid (HB5.out.trans (Below.less (hch6.to (B := w1.heap.size) (by omega) (fun k hk => by omega)) (Nat.le_refl _)))
    have HBW : Hid (Below w.heap.size w w6) := lhid (HB1.out.trans (Below.less HB6.out hw1))
    have HA6 := lhid (HA5.out.ch hch6 (by omega))
    clear hch6
    rcases hcase with ⟨hnd, rfl⟩ | ⟨hnd, rfl, v6, xs6, hT6, ho6, hr6, hc6⟩
    · have HND := lhid hnd
      clear hnd
      go_wp2_with fail
      go_ret2
      exact ⟨HBW.out, 23, .inr ⟨hl40, .inr ⟨HM.out, .inl ⟨HND.out, rfl⟩⟩⟩, .inl ⟨by decide, rfl⟩⟩
    have HND := lhid hnd
    have HT6 := lhid hT6
    have HC6 := lhid hc6
    have HV6 := lhid ((rdX_own (E := StE) (l := names (ownL ++ l)) (by rw [show (names (ownL ++ l)).length = (ownL ++ l).length from List.length_map _]; exact ho6) (by rw [show (names (ownL ++ l)).length = (ownL ++ l).length from List.length_map _]; omega) hr6).any (Q := fun g => w5.heap.size ≤ g) (fun g hg => hg.1))
    have H6 := lhid (h.out.below (keptX_cl P) HBW.out)
    clear hnd hT6 ho6 hr6 hc6
    go_wp2_with fail
    go_loopw [25] (fun i wr => ∃ kk : Nat, i = .int .i64 kk ∧ kk ≤ l.length ∧ Hid (∀ c ∈ l.take kk, mayB (ownL ++ l) c c.super = true ∧ AreI (ownL ++ l) c.ifaces) ∧ Hid (Below w6.heap.size w6 wr)) (fun i _ => l.length - (intOf i).toNat)
    case atStart => exact ⟨0, rfl, Nat.zero_le _, lhid (by simp), lhid (Below.refl _ _)⟩
    case round =>
      obtain ⟨kk, rfl, hkk, HK, HB⟩ := hrel
      have hbs := HB.out.size
      by_cases hlt : kk < l.length
      · obtain ⟨x, hx⟩ : ∃ x, l[kk]? = some x := ⟨_, List.getElem?_eq_getElem hlt⟩
        have HX := lhid hx
        have hxm := List.mem_of_getElem? hx
        have hxs := hSh.out x hxm
        have HR := lhid (H6.out.below (keptX_cl P) HB.out)
        obtain ⟨ga, oa, cc, rfl, _, hE, hc⟩ := HR.out.at' hx
        have hc1 := row_cl P _ _ _ hE
        have HE := lhid hE
        have HCL := lhid hc1.1
        have HRA : Hid (wr.rangeAt ga (oa + kk * 7) cc) := lhid hc
        have HSZ : Hid ((Tryz.prog.info? 39).map (·.size) = some cc.length) := lhid (by rw [hc1.1]; exact sz_cl)
        have HSA : Hid ((Tryz.prog.info? 39).map (·.size) = some cc.toArray.size) := lhid (by simpa using HSZ.out)
        have HALL : Hid (cc.toArray.all (·.oneCell') = true) := lhid (all_oneCell_toArray hc1.2)
        have hth : (wr.alloc (.cells #[.int .i64 0, .string ⟨#[]⟩, .string ⟨#[]⟩, .slice none 0 0, .slice none 0 0, .slice none 0 0, .slice none 0 0] 39)).there wr.heap.size 0 7 := fun j hj => ⟨by
          rw [Nat.zero_add, heap_cell (heap_alloc_new wr _) (Array.getElem?_eq_getElem (by simpa using hj))]; rfl, heap_thaw (heap_alloc_new wr _) _⟩
        have HTA : Hid ((wr.alloc (.cells #[.int .i64 0, .string ⟨#[]⟩, .string ⟨#[]⟩, .slice none 0 0, .slice none 0 0, .slice none 0 0, .slice none 0 0] 39)).there wr.heap.size 0 cc.toArray.size) := lhid (by rw [show cc.toArray.size = 7 by simpa using hc1.1]; exact hth)
        have HRB : Hid (((wr.alloc (.cells #[.int .i64 0, .string ⟨#[]⟩, .string ⟨#[]⟩, .slice none 0 0, .slice none 0 0, .slice none 0 0, .slice none 0 0] 39)).setCells wr.heap.size 0 cc).rangeAt wr.heap.size 0 cc) := lhid (World.rangeAt_setCells_same _ _ _ _ (by rw [hc1.1]; exact hth))
        have HW2 : Hid (Below wr.heap.size wr ((wr.alloc (.cells #[.int .i64 0, .string ⟨#[]⟩, .string ⟨#[]⟩, .slice none 0 0, .slice none 0 0, .slice none 0 0, .slice none 0 0] 39)).setCells wr.heap.size 0 cc)) := lhid (below_cells ((Below.refl wr.heap.size wr).alloc (Nat.le_refl _) _) (Nat.le_refl _) _ _)
        have hsz1 : ((wr.alloc (.cells #[.int .i64 0, .string ⟨#[]⟩, .string ⟨#[]⟩, .slice none 0 0, .slice none 0 0, .slice none 0 0, .slice none 0 0] 39)).setCells wr.heap.size 0 cc).heap.size = wr.heap.size + 1 := by rw [setCells_size]; simp
        have HS1 := lhid hsz1
        have k3 : (kk : Int) < l.length := by omega
        have HES := lhid (keptX_cl P _ _ _ _ (fun b _ hl => HW2.out.block b hl) HE.out)
        have HTr := lhid ((HT6.out.below HB.out).below HW2.out)
        have HCr := lhid ((HC6.out.below HB.out).below HW2.out)
        have HXS := lhid hxs
        clear hx hxm hxs hc hE hc1 hth hsz1
        go_wp2_with (first | (refine wpList_load_mid rfl 39 _ rfl ga (oa + kk * 7) rfl cc _ HRA.out Tryz.underlying39 (by rfl) HSZ.out ?_) | (refine wpList_store_mid rfl 39 _ _ rfl wr.heap.size 0 cc.toArray rfl rfl HTA.out HSA.out HALL.out ?_) | (refine wpList_load_mid rfl 39 _ rfl wr.heap.size 0 rfl cc _ HRB.out Tryz.underlying39 (by rfl) HSZ.out ?_))
        refine (hasKin_cs _ P (ownL ++ l) (w1.heap.size + 1 + 1) w1.heap.size (w1.heap.size + 1) v6 x cc _ HTr HCr HES HXS.out.2.1 (lhid HXS.out.2.2)).mono ?_
        rintro e w7 ⟨r, rfl, hr7, hb7⟩
        have HR7 := lhid hr7
        have HB7 := lhid (HB.out.trans (Below.less (HW2.out.trans (Below.less hb7 (by rw [HS1.out]; omega))) hbs))
        clear hr7 hb7
        cases r with
        | false =>
          go_wp2_with fail
          go_ret2
          refine ⟨HBW.out.trans (Below.less HB7.out (by omega)), 50, .inr ⟨hl40, .inr ⟨HM.out, .inr ⟨HND.out, .inl ⟨fun hk => ?_, rfl⟩⟩⟩⟩, .inl ⟨by decide, rfl⟩⟩
          have := HR7.out.2 (hk x (List.mem_of_getElem? HX.out))
          cases this
        | true =>
          go_wp2_with fail
          go_roundw
          case rel => exact ⟨kk + 1, by go_num, by omega, lhid (fun c hc => by
            rw [take_next HX.out] at hc
            rcases List.mem_append.1 hc with hc | hc
            · exact HK.out c hc
            · simp at hc
              rw [hc]
              exact HR7.out.1 (by simp)), HB7⟩
          case measure => simp [intOf]; omega
      · have k3 : ¬ (kk : Int) < l.length := by omega
        have e : kk = l.length := by omega
        subst e
        rw [List.take_length] at HK
        have HKO : Hid (KinOK (ownL ++ l) l) := lhid HK.out
        go_wp2_with fail
        have HT8 := lhid (HT6.out.below HB.out)
        have HC8 := lhid (((HC6.out.below HB.out).mono (Q' := fun g => w5.heap.size ≤ g ∧ g < wr.heap.size) (fun g hg hl => ⟨hg, hl⟩)))
        have HA8 := lhid (HA6.out.below HB.out)
        with_reducible refine (climb_any (fun g => w5.heap.size ≤ g ∧ g < wr.heap.size) (ownL ++ l) (closed_all HM.out HKO.out) (short_all hSh.out) (by omega) (w1.heap.size + 1 + 1) w1.heap.size (w1.heap.size + 1) v6 wr HT8 HC8 HA8 (by omega) (by omega) (lhid (fun g hg => ⟨by omega, hg.2⟩))).mono ?_
        rintro e w9 ⟨hch9, hcase⟩
        have HB9 : Hid (Below w.heap.size w w9) := lhid ((HBW.out.trans (Below.less HB.out (by omega))).trans (hch9.to (by omega) (fun k hk => by omega)))
        have HT9 := lhid (HT8.out.ch hch9 (by omega))
        have HC9 := lhid (HC8.out.ch hch9 (by omega) (fun g hg => by omega))
        have HV9 := lhid ((HV6.out.below (keptX_st _) HB.out).ch (keptX_st _) hch9 (fun g hg => by omega))
        clear hch9
        rcases hcase with ⟨rfl, hcirc⟩ | ⟨rfl, hnc, n, ham⟩
        · have HCI := lhid hcirc
          clear hcirc
          go_wp2_with fail
          go_ret2
          exact ⟨HB9.out, 51, .inr ⟨hl40, .inr ⟨HM.out, .inr ⟨HND.out, .inr ⟨HKO.out, .inl ⟨HCI.out, rfl⟩⟩⟩⟩⟩, .inl ⟨by decide, rfl⟩⟩
        · have HNC := lhid hnc
          have HAM := lhid ham
          clear hnc ham
          go_wp2_with fail
          go_ret2
          refine ⟨HB9.out, 0, .inr ⟨hl40, .inr ⟨HM.out, .inr ⟨HND.out, .inr ⟨HKO.out, .inr ⟨HNC.out, rfl⟩⟩⟩⟩⟩, .inr ⟨rfl, w1.heap.size + 1 + 1, rfl, ⟨w1.heap.size, w1.heap.size + 1, n, v6, HT9.out, HV9.out.any (fun g hg => by omega), HC9.out.mono (fun g hg _ => by have := hg.1; omega), ?_⟩, by omega⟩⟩
          obtain ⟨f, q1, q2⟩ := HAM.out
          refine ⟨f, q1, fun s => ⟨fun hs => ?_, (q2 s).2⟩⟩
          obtain ⟨sb, S, q3, q4, q5, q6⟩ := (q2 s).1 hs
          exact ⟨sb, S, q3, q4, by have : wr.heap.size ≤ sb := q5; show w.heap.size ≤ sb; omega, q6⟩
end Go.Proofs.YtpdnonlelocfbaaGreatDoor
/- What a tree answers: find, Class, Names, line. -/
namespace Go.Proofs.YtpdnonlelocfbaaGreatDoor
open Go.RowKit Go Go.Maps
set_option linter.unusedVariables false

theorem TreeOK.below {B : Nat} {w w' : World} {tb : Nat} {L : List ClI} (h : TreeOK B w tb L) (hb : Below w.heap.size w w') : TreeOK B w' tb L := by
  obtain ⟨⟨cb, ab, n, v, h1, h2, h3, f, h4, h5⟩, h6⟩ := h
  refine ⟨⟨cb, ab, n, v, h1.below hb, h2.below (keptX_st _) hb, h3.below hb, f, h4.below hb, fun s => ⟨fun hs => ?_, (h5 s).2⟩⟩, h6⟩
  obtain ⟨sb, S, q3, q4, q5, q6⟩ := (h5 s).1 hs
  exact ⟨sb, S, q3, q4.below hb, q5, q6⟩
abbrev zC : Value := .agg #[.int .i64 0, .string ⟨#[]⟩, .string ⟨#[]⟩, .slice none 0 0, .slice none 0 0, .slice none 0 0, .slice none 0 0]
/-- What find answers: the class's cells, or zeros. -/
def FindV (P : Nat → Prop) (w : World) (L : List ClI) (s : Bs) (v : Value) (ok : Bool) : Prop :=
  (findC L s = none ∧ v = zC ∧ ok = false) ∨ ∃ c a p b d, findC L s = some c ∧ ok = true ∧ v = .agg #[.int .i64 c.flags, .string (tx c.name), .string (tx c.super), a, p, b, d] ∧ RdX P 1 StE w a c.ifaces ∧ RdX P 5 CoE w p c.pool ∧ RdX P 3 FlE w b c.fields ∧ RdX P 8 (MeE P) w d c.methods
set_option maxHeartbeats 8000000 in
set_option maxRecDepth 100000 in
theorem find_any (B tb : Nat) (L : List ClI) (s : Bs) (w : World) (hT : Hid (TreeOK B w tb L)) (hs : s.length ≤ maxLen) :
    Calls Tryz.prog 56 #[.pointer (some ⟨tb, 0, none⟩), .string (tx s)] w fun e w' => ∃ v ok, e = .returned (.tuple #[v, .bool ok]) ∧ FindV (fun g => B ≤ g) w' L s v ok ∧ Below w.heap.size w w' := by
  obtain ⟨⟨cb, ab, n, v0, h1, h2, h3, h4⟩, h6⟩ := hT.out
  have HB1 := (Below.refl w.heap.size w).alloc (Nat.le_refl _) (.cells #[.int .i64 0, .string ⟨#[]⟩, .string ⟨#[]⟩, .slice none 0 0, .slice none 0 0, .slice none 0 0, .slice none 0 0] 39)
  have t1 := heap_cell (i := 1) (h1.below HB1) rfl
  have HX0 := lhid (heap_alloc_new w (.cells #[.int .i64 0, .string ⟨#[]⟩, .string ⟨#[]⟩, .slice none 0 0, .slice none 0 0, .slice none 0 0, .slice none 0 0] 39))
  have HBB := lhid HB1
  obtain ⟨f, hm0, hfs⟩ := h3
  have HM := lhid (hm0.below HB1)
  clear h1 h2 h4 HB1 hm0
  cases hf : findC L s with
  | none =>
    have HFU := lhid ((hfs s).1 hf)
    have HF := lhid hf
    clear hf hfs
    have HY : Hid (((w.alloc (.cells #[.int .i64 0, .string ⟨#[]⟩, .string ⟨#[]⟩, .slice none 0 0, .slice none 0 0, .slice none 0 0, .slice none 0 0] 39)).alloc (.cells #[.int .i64 0, .string ⟨#[]⟩, .string ⟨#[]⟩, .slice none 0 0, .slice none 0 0, .slice none 0 0, .slice none 0 0] 39)).heap[w.heap.size]? = some (.cells #[.int .i64 0, .string ⟨#[]⟩, .string ⟨#[]⟩, .slice none 0 0, .slice none 0 0, .slice none 0 0, .slice none 0 0] 39 (0, 0))) := lhid ((Below.heap_alloc _ _ _ (by simp)).trans HX0.out)
    have y0 := heap_cell (i := 0) HY.out rfl
    have z0 := heap_thaw HY.out 0
    have y1 := heap_cell (i := 1) HY.out rfl
    have z1 := heap_thaw HY.out 1
    have y2 := heap_cell (i := 2) HY.out rfl
    have z2 := heap_thaw HY.out 2
    have y3 := heap_cell (i := 3) HY.out rfl
    have z3 := heap_thaw HY.out 3
    have y4 := heap_cell (i := 4) HY.out rfl
    have z4 := heap_thaw HY.out 4
    have y5 := heap_cell (i := 5) HY.out rfl
    have z5 := heap_thaw HY.out 5
    have y6 := heap_cell (i := 6) HY.out rfl
    have z6 := heap_thaw HY.out 6
    go_enter Tryz.func56, Tryz.ntmps56
    go_wp2_with (at_lookup; refine wpList_lookok_mv _ rfl _ _ 97 rfl _ und_cm _ (zero_cl _) cb _ f rfl HM.out s rfl hs (.agg #[.int .i64 0, .string ⟨#[]⟩, .string ⟨#[]⟩, .slice none 0 0, .slice none 0 0, .slice none 0 0, .slice none 0 0]) (by rw [HFU.out]; rfl) false (by rw [HFU.out]; rfl) ?_)
    go_wp2_with fail
    refine bodyPost_ret (v := .tuple #[.agg #[.int .i64 0, .string ⟨#[]⟩, .string ⟨#[]⟩, .slice none 0 0, .slice none 0 0, .slice none 0 0, .slice none 0 0], .bool false]) (by simp [results, Tryz.results56, go_sem]) rfl ?_
    have hbf : Below w.heap.size w ((w.alloc (.cells #[.int .i64 0, .string ⟨#[]⟩, .string ⟨#[]⟩, .slice none 0 0, .slice none 0 0, .slice none 0 0, .slice none 0 0] 39)).alloc (.cells #[.int .i64 0, .string ⟨#[]⟩, .string ⟨#[]⟩, .slice none 0 0, .slice none 0 0, .slice none 0 0, .slice none 0 0] 39)) := ((Below.refl w.heap.size w).alloc (Nat.le_refl _) _).alloc (by simp) _
    exact ⟨_, false, rfl, .inl ⟨HF.out, rfl, rfl⟩, hbf⟩
  | some y =>
    obtain ⟨u, hfu, cy, rfl, a', p', b', d', rfl, r1, r2, r3, r4⟩ := (hfs s).2 y hf
    obtain ⟨ya, da, rfl⟩ := r1.shape
    obtain ⟨yp, dp, rfl⟩ := r2.shape
    obtain ⟨yb, db, rfl⟩ := r3.shape
    obtain ⟨yd, dd, rfl⟩ := r4.shape
    have HFU := lhid hfu
    have HF := lhid hf
    have R1 := lhid r1
    have R2 := lhid r2
    have R3 := lhid r3
    have R4 := lhid r4
    clear hf hfs hfu r1 r2 r3 r4
    have HY : Hid (((w.alloc (.cells #[.int .i64 0, .string ⟨#[]⟩, .string ⟨#[]⟩, .slice none 0 0, .slice none 0 0, .slice none 0 0, .slice none 0 0] 39)).alloc (.cells #[.int .i64 y.flags, .string (tx y.name), .string (tx y.super), .slice ya y.ifaces.length da, .slice yp y.pool.length dp, .slice yb y.fields.length db, .slice yd y.methods.length dd] 39)).heap[w.heap.size]? = some (.cells #[.int .i64 0, .string ⟨#[]⟩, .string ⟨#[]⟩, .slice none 0 0, .slice none 0 0, .slice none 0 0, .slice none 0 0] 39 (0, 0))) := lhid ((Below.heap_alloc _ _ _ (by simp)).trans HX0.out)
    have y0 := heap_cell (i := 0) HY.out rfl
    have z0 := heap_thaw HY.out 0
    have y1 := heap_cell (i := 1) HY.out rfl
    have z1 := heap_thaw HY.out 1
    have y2 := heap_cell (i := 2) HY.out rfl
    have z2 := heap_thaw HY.out 2
    have y3 := heap_cell (i := 3) HY.out rfl
    have z3 := heap_thaw HY.out 3
    have y4 := heap_cell (i := 4) HY.out rfl
    have z4 := heap_thaw HY.out 4
    have y5 := heap_cell (i := 5) HY.out rfl
    have z5 := heap_thaw HY.out 5
    have y6 := heap_cell (i := 6) HY.out rfl
    have z6 := heap_thaw HY.out 6
    go_enter Tryz.func56, Tryz.ntmps56
    go_wp2_with (at_lookup; refine wpList_lookok_mv _ rfl _ _ 97 rfl _ und_cm _ (zero_cl _) cb _ f rfl HM.out s rfl hs (.agg #[.int .i64 y.flags, .string (tx y.name), .string (tx y.super), .slice ya y.ifaces.length da, .slice yp y.pool.length dp, .slice yb y.fields.length db, .slice yd y.methods.length dd]) (by rw [HFU.out]; rfl) true (by rw [HFU.out]; rfl) ?_)
    go_wp2_with fail
    refine bodyPost_ret (v := .tuple #[.agg #[.int .i64 y.flags, .string (tx y.name), .string (tx y.super), .slice ya y.ifaces.length da, .slice yp y.pool.length dp, .slice yb y.fields.length db, .slice yd y.methods.length dd], .bool true]) (by simp [results, Tryz.results56, go_sem]) rfl ?_
    have hbf : Below w.heap.size w ((w.alloc (.cells #[.int .i64 y.flags, .string (tx y.name), .string (tx y.super), .slice ya y.ifaces.length da, .slice yp y.pool.length dp, .slice yb y.fields.length db, .slice yd y.methods.length dd] 39)).alloc (.cells #[.int .i64 y.flags, .string (tx y.name), .string (tx y.super), .slice ya y.ifaces.length da, .slice yp y.pool.length dp, .slice yb y.fields.length db, .slice yd y.methods.length dd] 39)) := ((Below.refl w.heap.size w).alloc (Nat.le_refl _) _).alloc (by simp) _
    exact ⟨_, true, rfl, .inr ⟨y, _, _, _, _, HF.out, rfl, rfl, R1.out.below (keptX_st _) hbf, R2.out.below (keptX_co _) hbf, R3.out.below (keptX_fl _) hbf, R4.out.below (keptX_me _) hbf⟩, hbf⟩
/-- A class's cells, or zeros, as Class answers them. -/
def ClassV (P : Nat → Prop) (w : World) (L : List ClI) (s : Bs) (cs : List Value) (ok : Bool) : Prop :=
  ∃ c, ClE P w c cs ∧ ((findC L s = none ∧ ok = false ∧ c = zI) ∨ (findC L s = some c ∧ ok = true))
theorem findV_cls {P : Nat → Prop} {w : World} {L : List ClI} {s : Bs} {v : Value} {ok : Bool} (h : FindV P w L s v ok) : ∃ x a p b d, v = .agg #[.int .i64 x.flags, .string (tx x.name), .string (tx x.super), a, p, b, d] ∧ (RdX P 1 StE w a x.ifaces ∧ RdX P 5 CoE w p x.pool ∧ RdX P 3 FlE w b x.fields ∧ RdX P 8 (MeE P) w d x.methods) ∧ ((findC L s = none ∧ ok = false ∧ x = zI) ∨ (findC L s = some x ∧ ok = true)) := by
  rcases h with ⟨h1, rfl, rfl⟩ | ⟨c, a, p, b, d, h1, rfl, rfl, h2⟩
  · exact ⟨zI, _, _, _, _, rfl, ⟨rdX_nil _ _ _ _ _ _ (fun _ => rfl), rdX_nil _ _ _ _ _ _ (fun _ => rfl), rdX_nil _ _ _ _ _ _ (fun _ => rfl), rdX_nil _ _ _ _ _ _ (fun _ => rfl)⟩, .inl ⟨h1, rfl, rfl⟩⟩
  · exact ⟨c, a, p, b, d, rfl, h2, .inr ⟨h1, rfl⟩⟩
end Go.Proofs.YtpdnonlelocfbaaGreatDoor
/- What a tree that is taken is: rooted, closed, without circles. -/
namespace Go.Proofs.YtpdnonlelocfbaaGreatDoor
open Go.RowKit Go Go.Maps
set_option linter.unusedVariables false

theorem newE_zero {l : List ClI} (h : NewE l 0) : l.length ≤ 40 ∧ l.any misB = false ∧ (names (ownL ++ l)).Nodup ∧ KinOK (ownL ++ l) l ∧ ∀ s ∈ names (ownL ++ l), ¬ Circ (ownL ++ l) s := by
  unfold NewE at h
  rcases h with ⟨_, h⟩ | ⟨h1, ⟨_, h⟩ | ⟨h2, ⟨_, h⟩ | ⟨h3, ⟨_, h⟩ | ⟨h4, ⟨_, h⟩ | ⟨h5, _⟩⟩⟩⟩⟩
  all_goals first
    | exact ⟨h1, h2, h3, h4, h5⟩
    | exact absurd h (by decide)
/-- The parent of a class that is there is there, but Object's. -/
def Rooted (L : List ClI) : Prop := ∀ c ∈ L, c.name = nObject ∨ (findC L c.super).isSome = true
theorem super_in {L : List ClI} {s : Bs} {c : ClI} (hc : findC L s = some c) (h : (findC L c.super).isSome = true) : c.super ∈ nxt L s := by
  have hn : nxt L s = kinOf L c := by unfold nxt; rw [hc]
  rw [hn]
  unfold kinOf
  rw [if_pos h]
  simp
theorem to_object {L : List ClI} (hR : Rooted L) (hN : ∀ s ∈ names L, ¬ Circ L s) : ∀ (k : Nat) (p : List Bs) (s : Bs), (names L).length ≤ p.length + k → p.Nodup → (∀ z ∈ p, z ∈ names L) → s ∈ p → (∀ z ∈ p, z = s ∨ ∃ n ∈ nxt L z, Rch L n s) → Rch L s nObject := by
  intro k
  induction k with
  | zero =>
    intro p s hk hp hin hs hr
    obtain ⟨c, hc⟩ := names_find (hin s hs)
    have hcl := findC_some hc
    rcases hR c hcl.1 with h | h
    · rw [← hcl.2, h]; exact .refl _
    · obtain ⟨y, hy⟩ := Option.isSome_iff_exists.1 h
      have hyn := super_in hc h
      have hyp : c.super ∉ p := fun hm => by
        rcases hr _ hm with e | ⟨n, hn, hnr⟩
        · exact hN _ (find_names hy) ⟨c.super, by rw [e] at hyn ⊢; exact hyn, .refl _⟩
        · exact hN _ (find_names hy) ⟨n, hn, hnr.trans (.step hyn (.refl _))⟩
      have := nodup_len (c.super :: p) (names L) (List.nodup_cons.2 ⟨hyp, hp⟩) (fun x hx => by rcases List.mem_cons.1 hx with h | h; rw [h]; exact find_names hy; exact hin x h)
      simp only [List.length_cons] at this
      omega
  | succ k ih =>
    intro p s hk hp hin hs hr
    obtain ⟨c, hc⟩ := names_find (hin s hs)
    have hcl := findC_some hc
    rcases hR c hcl.1 with h | h
    · rw [← hcl.2, h]; exact .refl _
    · obtain ⟨y, hy⟩ := Option.isSome_iff_exists.1 h
      have hyn := super_in hc h
      have hyp : c.super ∉ p := fun hm => by
        rcases hr _ hm with e | ⟨n, hn, hnr⟩
        · exact hN _ (find_names hy) ⟨c.super, by rw [e] at hyn ⊢; exact hyn, .refl _⟩
        · exact hN _ (find_names hy) ⟨n, hn, hnr.trans (.step hyn (.refl _))⟩
      refine .step hyn (ih (c.super :: p) c.super (by simp only [List.length_cons]; omega) (List.nodup_cons.2 ⟨hyp, hp⟩) (fun x hx => by rcases List.mem_cons.1 hx with h | h; rw [h]; exact find_names hy; exact hin x h) (by simp) (fun z hz => ?_))
      rcases List.mem_cons.1 hz with e | hz
      · exact .inl e
      · rcases hr z hz with e | ⟨n, hn, hnr⟩
        · exact .inr ⟨c.super, by rw [e]; exact hyn, .refl _⟩
        · exact .inr ⟨n, hn, hnr.trans (.step hyn (.refl _))⟩
theorem above_object {L : List ClI} (hR : Rooted L) (hN : ∀ s ∈ names L, ¬ Circ L s) {s : Bs} (hs : s ∈ names L) : Rch L s nObject :=
  to_object hR hN (names L).length [s] s (by simp) (by simp) (fun z hz => by simp at hz; rw [hz]; exact hs) (by simp) (fun z hz => .inl (by simpa using hz))
theorem rch_in {L : List ClI} (hC : Closed L) {s z : Bs} (hs : s ∈ names L) (h : Rch L s z) : z ∈ names L := by
  induction h with
  | refl => exact hs
  | step h1 _ ih =>
    refine ih ?_
    unfold nxt at h1
    obtain ⟨c, hc⟩ := names_find hs
    rw [hc] at h1
    exact kinOf_in hC (findC_some hc).1 _ h1
theorem mayB_there {L : List ClI} {c : ClI} {s : Bs} (h : mayB L c s = true) : (findC L s).isSome = true := by
  unfold mayB at h
  cases hf : findC L s with
  | none => rw [hf] at h; cases h
  | some y => rfl
theorem rooted_all {l : List ClI} (hk : KinOK (ownL ++ l) l) : Rooted (ownL ++ l) := by
  intro c hc
  rcases List.mem_append.1 hc with hc | hc
  · obtain ⟨c0, hc0, rfl⟩ := List.mem_map.1 hc
    have hall : ∀ c ∈ own0, c.name = nObject ∨ (findC ownL c.super).isSome = true := by
      intro c hc
      simp only [own0, List.mem_cons, List.not_mem_nil, or_false] at hc
      rcases hc with rfl | rfl | rfl | rfl | rfl | rfl | rfl | rfl | rfl | rfl | rfl | rfl | rfl <;> decide
    rcases hall c0 hc0 with h | h
    · exact .inl h
    · refine .inr ?_
      obtain ⟨y, hy⟩ := Option.isSome_iff_exists.1 h
      have : findC (ownL ++ l) c0.super = some y := by
        unfold findC at hy ⊢
        rw [List.find?_append, hy]
        rfl
      show (findC (ownL ++ l) c0.super).isSome = true
      rw [this]
      rfl
  · exact .inr (mayB_there (hk c hc).1)
theorem obj_find (l : List ClI) : ∃ c, findC (ownL ++ l) nObject = some c ∧ c.super = [] ∧ c.ifaces = [] := by
  have h0 : ∃ y, findC ownL nObject = some y ∧ y.super = [] ∧ y.ifaces = [] := ⟨_, rfl, rfl, rfl⟩
  obtain ⟨y, hy, hs⟩ := h0
  refine ⟨y, ?_, hs⟩
  unfold findC at hy ⊢
  rw [List.find?_append, hy]
  rfl
theorem obj_super {l : List ClI} {c : ClI} (h : findC (ownL ++ l) nObject = some c) : c.super = [] := by
  obtain ⟨y, hy, hs, _⟩ := obj_find l
  rw [hy] at h
  injection h with h
  rw [← h]
  exact hs
theorem obj_nxt {l : List ClI} (hC : Closed (ownL ++ l)) : nxt (ownL ++ l) nObject = [] := by
  obtain ⟨y, hy, hs, hi⟩ := obj_find l
  have hn : findC (ownL ++ l) [] = none := findC_none.2 hC.2
  unfold nxt
  rw [hy]
  show kinOf (ownL ++ l) y = []
  unfold kinOf
  rw [hs, hn, hi]
  rfl
theorem par_of {L : List ClI} (hC : Closed L) (hR : Rooted L) (hO : ∀ c, findC L nObject = some c → c.super = []) {n : Bs} {c : ClI} (hf : findC L n = some c) {p : Bs} (hp : p = c.super ∨ p ∈ c.ifaces) (hne : ¬ p = []) : p ∈ names L ∧ p ∈ nxt L n := by
  have hc := findC_some hf
  have hn : nxt L n = kinOf L c := by unfold nxt; rw [hf]
  rcases hp with rfl | hp
  · rcases hR c hc.1 with h | h
    · exact absurd (hO c (by rw [← h, hc.2]; exact hf)) hne
    · obtain ⟨y, hy⟩ := Option.isSome_iff_exists.1 h
      exact ⟨find_names hy, super_in hf h⟩
  · exact ⟨hC.1 c hc.1 p hp, by rw [hn]; unfold kinOf; exact List.mem_append_right _ hp⟩
end Go.Proofs.YtpdnonlelocfbaaGreatDoor
/- line: a class, its parent, the parent's and so on. -/
namespace Go.Proofs.YtpdnonlelocfbaaGreatDoor
open Go.RowKit Go Go.Maps
set_option linter.unusedVariables false

/-- A class, its parent, the parent's and so on. -/
inductive Lin (L : List ClI) : Bs → List Bs → Prop
  | stop {s : Bs} : findC L s = none → Lin L s []
  | more {s : Bs} {c : ClI} {t : List Bs} : findC L s = some c → Lin L c.super t → Lin L s (s :: t)
def lenV : Value → Nat
  | .slice _ n _ => n
  | _ => 0
def onV : Value → Nat
  | .bool true => 1
  | _ => 0
def lineV (l : List Bs) : List Value := l.map fun s => .string (tx s)
theorem rows_lineV (w : World) : ∀ l : List Bs, RowsE 1 (StE w) l (lineV l)
  | [] => rowsE_nil _ _
  | s :: l => by
    have := (rowsE_one (k := 1) (E := StE w) (a := s) (c := [.string (tx s)]) rfl rfl).app (rows_lineV w l)
    simpa [lineV] using this
/-- What a line's walk keeps: those that were met, and where it stands. -/
structure LinAt (L : List ClI) (s0 s : Bs) (acc : List Bs) : Prop where
  on : ∀ t, Lin L s t → Lin L s0 (acc ++ t)
  once : acc.Nodup
  there : ∀ z ∈ acc, z ∈ names L
  up : findC L s ≠ none → ∀ z ∈ acc, ∃ n ∈ nxt L z, Rch L n s
theorem LinAt.start (L : List ClI) (s0 : Bs) : LinAt L s0 s0 [] := ⟨fun _ h => h, List.nodup_nil, fun z h => (by cases h), fun _ z h => (by cases h)⟩
theorem LinAt.len {L : List ClI} {s0 s : Bs} {acc : List Bs} (h : LinAt L s0 s acc) : acc.length ≤ (names L).length := nodup_len _ _ h.once h.there
theorem LinAt.next {L : List ClI} (hN : ∀ z ∈ names L, ¬ Circ L z) {s0 s : Bs} {acc : List Bs} {c : ClI} (h : LinAt L s0 s acc) (hc : findC L s = some c) : LinAt L s0 c.super (acc ++ [s]) := by
  have hne : findC L s ≠ none := by rw [hc]; simp
  have hnot : s ∉ acc := fun hm => hN s (find_names hc) (h.up hne s hm)
  refine ⟨fun t ht => ?_, ?_, fun z hz => ?_, fun hs z hz => ?_⟩
  · rw [List.append_assoc]
    exact h.on _ (.more hc ht)
  · rw [List.nodup_append]
    refine ⟨h.once, by simp, fun a ha b hb e => ?_⟩
    simp at hb
    subst hb
    subst e
    exact hnot ha
  · rcases List.mem_append.1 hz with hz | hz
    · exact h.there z hz
    · simp at hz
      rw [hz]
      exact find_names hc
  · have hsn : c.super ∈ nxt L s := super_in hc (Option.isSome_iff_ne_none.2 hs)
    rcases List.mem_append.1 hz with hz | hz
    · obtain ⟨n, hn, hr⟩ := h.up hne z hz
      exact ⟨n, hn, hr.trans (.step hsn (.refl _))⟩
    · simp at hz
      rw [hz]
      exact ⟨c.super, hsn, .refl _⟩
set_option maxHeartbeats 16000000 in
set_option maxRecDepth 100000 in
theorem line_any (B tb : Nat) (L : List ClI) (s0 : Bs) (w : World) (hT : Hid (TreeOK B w tb L)) (hs : s0.length ≤ maxLen) (hL : L.length ≤ 100) (hSh : Hid (Short L)) (hN : Hid (∀ z ∈ names L, ¬ Circ L z)) :
    Calls Tryz.prog 139 #[.pointer (some ⟨tb, 0, none⟩), .string (tx s0)] w fun e w' => ∃ v l, e = .returned v ∧ RdX (fun g => w.heap.size ≤ g) 1 StE w' v l ∧ Lin L s0 l ∧ l.length ≤ 100 ∧ (∀ z ∈ l, z ∈ names L) ∧ Below w.heap.size w w' := by
  obtain ⟨i0, hi, hz0, hz1, hz2⟩ := info_parts info_st
  have hNL : (names L).length ≤ 100 := by unfold names; rw [List.length_map]; exact hL
  go_enter Tryz.func139, Tryz.ntmps139
  go_wp2_with fail
  with_reducible refine (find_any B tb L s0 w hT hs).mono ?_
  rintro e w1 ⟨v, ok, rfl, hv, hb1⟩
  obtain ⟨x, xa, xp, xb, xd, rfl, ⟨r1, r2, r3, r4⟩, hx⟩ := findV_cls hv
  obtain ⟨xa, da, rfl⟩ := r1.shape
  obtain ⟨xp, dp, rfl⟩ := r2.shape
  obtain ⟨xb, db, rfl⟩ := r3.shape
  obtain ⟨xd, dd, rfl⟩ := r4.shape
  have HX1 : Hid ((findC L s0 = none ∧ ok = false) ∨ (findC L s0 = some x ∧ ok = true)) := lhid (hx.imp (fun h => ⟨h.1, h.2.1⟩) id)
  have HB1 := lhid (hb1.alloc hb1.size (.cells #[.int .i64 x.flags, .string (tx x.name), .string (tx x.super), .slice xa x.ifaces.length da, .slice xp x.pool.length dp, .slice xb x.fields.length db, .slice xd x.methods.length dd] 39))
  have HG1 := lhid (heap_alloc_new w1 (.cells #[.int .i64 x.flags, .string (tx x.name), .string (tx x.super), .slice xa x.ifaces.length da, .slice xp x.pool.length dp, .slice xb x.fields.length db, .slice xd x.methods.length dd] 39))
  have hg1 := hb1.size
  clear hv r1 r2 r3 r4 hx hb1
  go_wp2_with fail
  generalize w1.alloc (.cells #[.int .i64 x.flags, .string (tx x.name), .string (tx x.super), .slice xa x.ifaces.length da, .slice xp x.pool.length dp, .slice xb x.fields.length db, .slice xd x.methods.length dd] 39) = w2 at *
  go_loopw [5, 6, 7] (fun v pc okv wr => ∃ (acc : List Bs) (s : Bs) (g : Nat) (x : ClI) (xa xp xb xd : Option Addr) (da dp db dd : Nat) (b : Bool), pc = .pointer (some ⟨g, 0, none⟩) ∧ okv = .bool b ∧ w.heap.size ≤ g ∧ Hid (wr.heap[g]? = some (.cells #[.int .i64 x.flags, .string (tx x.name), .string (tx x.super), .slice xa x.ifaces.length da, .slice xp x.pool.length dp, .slice xb x.fields.length db, .slice xd x.methods.length dd] 39 (0, 0))) ∧ Hid ((findC L s = none ∧ b = false) ∨ (findC L s = some x ∧ b = true)) ∧ Hid (LinAt L s0 s acc) ∧ Hid (wr.ownsRow w.heap.size 9 1 v acc.length (lineV acc)) ∧ Hid (∀ k, v.ownBlock = some k → k ≠ g) ∧ Hid (Below w.heap.size w wr)) (fun v _ okv _ => onV okv * (1 + 100 - lenV v))
  case atStart => exact ⟨[], s0, _, x, xa, xp, xb, xd, da, dp, db, dd, ok, rfl, rfl, hg1, HG1, HX1, lhid (.start L s0), lhid (World.ownsRow_nil _ _ _ _), lhid (fun k e => (by cases e)), HB1⟩
  case round =>
    obtain ⟨acc, s, g, x, xa, xp, xb, xd, da, dp, db, dd, b, rfl, rfl, hg, HG, HX, HA, HV, HK, HB⟩ := hrel
    have hbs := HB.out.size
    have hal := HA.out.len
    obtain ⟨A, cA, rfl⟩ := own_shape HV.out
    cases b with
    | false =>
      have hf : findC L s = none := by
        rcases HX.out with h | h
        · exact h.1
        · exact absurd h.2 (by decide)
      have hlin := HA.out.on [] (.stop hf)
      rw [List.append_nil] at hlin
      have HLI := lhid hlin
      clear hf hlin
      go_wp2_with fail
      go_ret
      have hrd := (rdX_own (E := StE) (l := acc) HV.out (by omega) (rows_lineV _ _)).any (Q := fun g => w.heap.size ≤ g) (fun g hg => hg.1)
      have hacc : acc.length ≤ 100 := by omega
      exact ⟨_, by rfl, acc, hrd, HLI.out, hacc, HA.out.there, HB.out⟩
    | true =>
      have hf : findC L s = some x := by
        rcases HX.out with h | h
        · exact absurd h.2 (by decide)
        · exact h.1
      have hnm := (findC_some hf).2
      have hsup := short_super hSh.out (findC_some hf).1
      have HN2 := lhid (HA.out.next hN.out hf)
      have hgl := heap_lt HG.out
      have HNM := lhid hnm
      have x1 := heap_cell (i := 1) HG.out rfl
      clear hf hnm
      go_wp2_with (at_builtin; refine wpList_append_own _ rfl _ _ 34 rfl w.heap.size 9 i0 (.string ⟨#[]⟩) 1 16 Tryz.underlying34 hi hz0 hz1 hz2 rfl (by decide) _ acc.length (lineV acc) rfl (HV.out.alloc _) ⟨wr.heap.size, 0, none⟩ 1 1 [.string (tx x.name)] rfl rfl (new_cells _ _ _) ?a2 ?a3 ?a4 ?a5 ?_)
      case a2 => rfl
      case a3 => unfold maxLen; omega
      case a4 => omega
      case a5 => first | omega | (simp; omega)
      intro v2 w2 hown2 hgrow hnil
      have hHB2 : Below w.heap.size w w2 := Below.grown (HB.out.alloc hbs _) hgrow (by simp; omega) (own_lt HV.out)
      have HB2 := lhid hHB2
      have hG2 : w2.heap[g]? = some (.cells #[.int .i64 x.flags, .string (tx x.name), .string (tx x.super), .slice xa x.ifaces.length da, .slice xp x.pool.length dp, .slice xb x.fields.length db, .slice xd x.methods.length dd] 39 (0, 0)) := by
        have h1 := Below.heap_alloc wr (.cells #[.string (tx x.name)] 9) g hgl
        exact (hgrow.block g (by simp; omega) (fun e => HK.out g e.symm rfl)).trans (h1.trans HG.out)
      have HG2 := lhid hG2
      have hown3 : w2.ownsRow w.heap.size 9 1 v2 (acc ++ [s]).length (lineV (acc ++ [s])) := by
        rw [List.length_append, show lineV (acc ++ [s]) = lineV acc ++ [.string (tx s)] by simp [lineV], ← HNM.out]
        exact hown2
      have HV2 := lhid hown3
      have hw2 := HB2.out.size
      have hg2 := heap_lt HG2.out
      clear hown2 hgrow hnil x1
      obtain ⟨A2, cA2, rfl⟩ := own_shape HV2.out
      have y0 := heap_cell (i := 0) HG2.out rfl
      have y1 := heap_cell (i := 1) HG2.out rfl
      have y2 := heap_cell (i := 2) HG2.out rfl
      have y3 := heap_cell (i := 3) HG2.out rfl
      have y4 := heap_cell (i := 4) HG2.out rfl
      have y5 := heap_cell (i := 5) HG2.out rfl
      have y6 := heap_cell (i := 6) HG2.out rfl
      have hT3 := hT.out.below ((Below.less HB2.out (Nat.le_refl _)).alloc hw2 (.cells #[.int .i64 x.flags, .string (tx x.name), .string (tx x.super), .slice xa x.ifaces.length da, .slice xp x.pool.length dp, .slice xb x.fields.length db, .slice xd x.methods.length dd] 39))
      have HT3 := lhid hT3
      have HB3 := lhid (HB2.out.alloc hw2 (.cells #[.int .i64 x.flags, .string (tx x.name), .string (tx x.super), .slice xa x.ifaces.length da, .slice xp x.pool.length dp, .slice xb x.fields.length db, .slice xd x.methods.length dd] 39))
      have HY3 := lhid (heap_alloc_new w2 (.cells #[.int .i64 x.flags, .string (tx x.name), .string (tx x.super), .slice xa x.ifaces.length da, .slice xp x.pool.length dp, .slice xb x.fields.length db, .slice xd x.methods.length dd] 39))
      have HA3 : Hid (∀ k, k < w2.heap.size → (w2.alloc (.cells #[.int .i64 x.flags, .string (tx x.name), .string (tx x.super), .slice xa x.ifaces.length da, .slice xp x.pool.length dp, .slice xb x.fields.length db, .slice xd x.methods.length dd] 39)).heap[k]? = w2.heap[k]?) := lhid (fun k hk => Below.heap_alloc _ _ _ hk)
      clear hT3
      go_wp2_with fail
      generalize w2.alloc (.cells #[.int .i64 x.flags, .string (tx x.name), .string (tx x.super), .slice xa x.ifaces.length da, .slice xp x.pool.length dp, .slice xb x.fields.length db, .slice xd x.methods.length dd] 39) = w3 at *
      have hw3 := HB3.out.size
      have hy3 := heap_lt HY3.out
      with_reducible refine (find_any B tb L x.super w3 HT3 hsup).mono ?_
      rintro e w4 ⟨v4, ok4, rfl, hv4, hb4⟩
      obtain ⟨u, ua, up, ub, ud, rfl, ⟨r1, r2, r3, r4⟩, hu⟩ := findV_cls hv4
      obtain ⟨ua, ea, rfl⟩ := r1.shape
      obtain ⟨up, ep, rfl⟩ := r2.shape
      obtain ⟨ub, eb, rfl⟩ := r3.shape
      obtain ⟨ud, ed, rfl⟩ := r4.shape
      have HU : Hid ((findC L x.super = none ∧ ok4 = false) ∨ (findC L x.super = some u ∧ ok4 = true)) := lhid (hu.imp (fun h => ⟨h.1, h.2.1⟩) id)
      have HB4 := lhid (HB3.out.trans (Below.less hb4 hw3))
      have HY4 := lhid ((hb4.block _ hy3).trans HY3.out)
      have HV4 := lhid (own_of HV2.out fun g hg => (hb4.block g (by have := (HV2.out.lt g hg).2; omega)).trans (HA3.out g (HV2.out.lt g hg).2))
      have hy2 : w2.heap.size < w3.heap.size := hy3
      clear hv4 r1 r2 r3 r4 hu hb4 y0 y1 y2 y3 y4 y5 y6
      have z0 := heap_thaw HY4.out 0
      have z1 := heap_thaw HY4.out 1
      have z2 := heap_thaw HY4.out 2
      have z3 := heap_thaw HY4.out 3
      have z4 := heap_thaw HY4.out 4
      have z5 := heap_thaw HY4.out 5
      have z6 := heap_thaw HY4.out 6
      have y0 := heap_cell (i := 0) HY4.out rfl
      have y1 := heap_cell (i := 1) HY4.out rfl
      have y2 := heap_cell (i := 2) HY4.out rfl
      have y3 := heap_cell (i := 3) HY4.out rfl
      have y4 := heap_cell (i := 4) HY4.out rfl
      have y5 := heap_cell (i := 5) HY4.out rfl
      have y6 := heap_cell (i := 6) HY4.out rfl
      have HG7 : Hid ((((((((w4.setCell ⟨w2.heap.size, 0, none⟩ (.int .i64 u.flags)).setCell ⟨w2.heap.size, 1, none⟩ (.string (tx u.name))).setCell ⟨w2.heap.size, 2, none⟩ (.string (tx u.super))).setCell ⟨w2.heap.size, 3, none⟩ (.slice ua u.ifaces.length ea)).setCell ⟨w2.heap.size, 4, none⟩ (.slice up u.pool.length ep)).setCell ⟨w2.heap.size, 5, none⟩ (.slice ub u.fields.length eb)).setCell ⟨w2.heap.size, 6, none⟩ (.slice ud u.methods.length ed)).heap[w2.heap.size]? = some (.cells #[.int .i64 u.flags, .string (tx u.name), .string (tx u.super), .slice ua u.ifaces.length ea, .slice up u.pool.length ep, .slice ub u.fields.length eb, .slice ud u.methods.length ed] 39 (0, 0))) := lhid (by
        have := (heap_set (i := 6) (heap_set (i := 5) (heap_set (i := 4) (heap_set (i := 3) (heap_set (i := 2) (heap_set (i := 1) (heap_set (i := 0) HY4.out (.int .i64 u.flags)) (.string (tx u.name))) (.string (tx u.super))) (.slice ua u.ifaces.length ea)) (.slice up u.pool.length ep)) (.slice ub u.fields.length eb)) (.slice ud u.methods.length ed))
        simpa using this)
      have HV7 : Hid ((((((((w4.setCell ⟨w2.heap.size, 0, none⟩ (.int .i64 u.flags)).setCell ⟨w2.heap.size, 1, none⟩ (.string (tx u.name))).setCell ⟨w2.heap.size, 2, none⟩ (.string (tx u.super))).setCell ⟨w2.heap.size, 3, none⟩ (.slice ua u.ifaces.length ea)).setCell ⟨w2.heap.size, 4, none⟩ (.slice up u.pool.length ep)).setCell ⟨w2.heap.size, 5, none⟩ (.slice ub u.fields.length eb)).setCell ⟨w2.heap.size, 6, none⟩ (.slice ud u.methods.length ed)).ownsRow w.heap.size 9 1 (.slice A2 (acc ++ [s]).length cA2) (acc ++ [s]).length (lineV (acc ++ [s]))) := lhid (own_of HV4.out fun g hg => by
        have hne : g ≠ w2.heap.size := fun e => by have := (HV2.out.lt g hg).2; omega
        repeat rw [Below.heap_setCell _ _ _ _ hne])
      have HB7 := lhid (((((((HB4.out.setCell (p := ⟨w2.heap.size, 0, none⟩) hw2 (.int .i64 u.flags)).setCell (p := ⟨w2.heap.size, 1, none⟩) hw2 (.string (tx u.name))).setCell (p := ⟨w2.heap.size, 2, none⟩) hw2 (.string (tx u.super))).setCell (p := ⟨w2.heap.size, 3, none⟩) hw2 (.slice ua u.ifaces.length ea)).setCell (p := ⟨w2.heap.size, 4, none⟩) hw2 (.slice up u.pool.length ep)).setCell (p := ⟨w2.heap.size, 5, none⟩) hw2 (.slice ub u.fields.length eb)).setCell (p := ⟨w2.heap.size, 6, none⟩) hw2 (.slice ud u.methods.length ed))
      have HK7 : Hid (∀ k, (Value.slice A2 (acc ++ [s]).length cA2).ownBlock = some k → k ≠ w2.heap.size) := lhid fun k hk e => by have := (HV2.out.lt k hk).2; omega
      clear HY4
      go_wp2_with fail
      go_roundw
      case rel => exact ⟨acc ++ [s], x.super, w2.heap.size, u, ua, up, ub, ud, ea, ep, eb, ed, ok4, rfl, rfl, hw2, HG7, HU, HN2, by simpa using HV7, by simpa using HK7, HB7⟩
      case measure =>
        have := HN2.out.len
        simp at this
        cases ok4
        · simp [onV, lenV]; omega
        · simp [onV, lenV]; omega
end Go.Proofs.YtpdnonlelocfbaaGreatDoor
/- Field: the field that a class's name and a field's lead to. -/
namespace Go.Proofs.YtpdnonlelocfbaaGreatDoor
open Go.RowKit Go Go.Maps
set_option linter.unusedVariables false

def fldB (n d : Bs) (f : FlI) : Bool := decide (f.name = n) && decide (f.desc = d)
/-- A class's own field. -/
def fieldIn (L : List ClI) (n d o : Bs) : Option (Bs × FlI) :=
  match findC L o with
  | none => none
  | some c => (c.fields.find? (fldB n d)).map fun f => (o, f)
/-- What Field answers of a line of classes. -/
def FieldIs (L : List ClI) (n d : Bs) (l : List Bs) (o : Bs) (f : FlI) (ok : Bool) : Prop :=
  (l.findSome? (fieldIn L n d) = none ∧ o = [] ∧ f = ⟨0, [], []⟩ ∧ ok = false) ∨ (l.findSome? (fieldIn L n d) = some (o, f) ∧ ok = true)
theorem findSome_take {α β : Type} {p : α → Option β} {l : List α} {k : Nat} {x : α} (h : (l.take k).findSome? p = none) (hx : l[k]? = some x) (hp : p x = none) : (l.take (k + 1)).findSome? p = none := by
  rw [List.take_add_one, hx, List.findSome?_append, h]
  simp [hp]
theorem findSome_hit {α β : Type} {p : α → Option β} {l : List α} {k : Nat} {x : α} {y : β} (h : (l.take k).findSome? p = none) (hx : l[k]? = some x) (hp : p x = some y) : l.findSome? p = some y := by
  have e : l = l.take k ++ x :: l.drop (k + 1) := by
    have hlt := (List.getElem?_eq_some_iff.1 hx).1
    have hxe : l[k] = x := (List.getElem?_eq_some_iff.1 hx).2
    have h1 := List.drop_eq_getElem_cons hlt
    rw [hxe] at h1
    rw [← h1, List.take_append_drop]
  rw [e, List.findSome?_append, h]
  simp [hp]
theorem find_take {α : Type} {p : α → Bool} {l : List α} {k : Nat} {x : α} (h : (l.take k).find? p = none) (hx : l[k]? = some x) (hp : p x = false) : (l.take (k + 1)).find? p = none := by
  rw [List.take_add_one, hx, List.find?_append, h]
  simp [hp]
theorem find_hit {α : Type} {p : α → Bool} {l : List α} {k : Nat} {x : α} (h : (l.take k).find? p = none) (hx : l[k]? = some x) (hp : p x = true) : l.find? p = some x := by
  have e : l = l.take k ++ x :: l.drop (k + 1) := by
    have hlt := (List.getElem?_eq_some_iff.1 hx).1
    have hxe : l[k] = x := (List.getElem?_eq_some_iff.1 hx).2
    have h1 := List.drop_eq_getElem_cons hlt
    rw [hxe] at h1
    rw [← h1, List.take_append_drop]
  rw [e, List.find?_append, h]
  simp [hp]
/-- What Field leaves. -/
def FieldOut (L : List ClI) (s n d : Bs) (w : World) (e : Ending) (w' : World) : Prop :=
  ∃ o f ok, e = .returned (.tuple #[.string (tx o), .agg #[.int .i64 f.flags, .string (tx f.name), .string (tx f.desc)], .bool ok]) ∧ (∃ l, Lin L s l ∧ FieldIs L n d l o f ok) ∧ Below w.heap.size w w'
theorem run_fields' (a : Int) (n s : ByteArray) (A B C D : Option Addr) (l1 l2 l3 l4 c1 c2 c3 c4 : Nat) (w : World) : (Instr.field 39 (.agg #[.int .i64 a, .string n, .string s, .slice A l1 c1, .slice B l2 c2, .slice C l3 c3, .slice D l4 c4]) 5).run Tryz.prog w = .ok (.slice C l3 c3) w := by kernel_rfl
set_option maxHeartbeats 16000000 in
set_option maxRecDepth 100000 in
theorem field_any (B tb : Nat) (L : List ClI) (s n d : Bs) (w : World) (hT : Hid (TreeOK B w tb L)) (hs : s.length ≤ maxLen) (hL : L.length ≤ 100) (hSh : Hid (Short L)) (hN : Hid (∀ z ∈ names L, ¬ Circ L z)) :
    Calls Tryz.prog 82 #[.pointer (some ⟨tb, 0, none⟩), .string (tx s), .string (tx n), .string (tx d)] w (FieldOut L s n d w) := by
  have HB0 := lhid ((Below.refl w.heap.size w).alloc (Nat.le_refl _) (.cells #[.int .i64 0, .string ⟨#[]⟩, .string ⟨#[]⟩] 91))
  have HX0 := lhid (heap_alloc_new w (.cells #[.int .i64 0, .string ⟨#[]⟩, .string ⟨#[]⟩] 91))
  have HT0 := lhid (hT.out.below HB0.out)
  go_enter Tryz.func82, Tryz.ntmps82
  go_wp2_with fail
  generalize w.alloc (.cells #[.int .i64 0, .string ⟨#[]⟩, .string ⟨#[]⟩] 91) = w0 at *
  have hw0 := HB0.out.size
  with_reducible refine (line_any B tb L s w0 HT0 hs hL hSh hN).mono ?_
  rintro e w1 ⟨v, l, rfl, hr1, hlin, hl100, hin, hb1⟩
  obtain ⟨A, cap, rfl⟩ := hr1.shape
  have HR1 := lhid hr1
  have HLI := lhid hlin
  have HIN := lhid hin
  have HB1 := lhid (HB0.out.trans (Below.less hb1 hw0))
  have hX1 := (hb1.block _ (heap_lt HX0.out)).trans HX0.out
  have HX1 := lhid hX1
  have hT1 := HT0.out.below hb1
  have HT1 := lhid hT1
  have hw1 := HB1.out.size
  have hlt1 := heap_lt hX1
  clear hr1 hlin hin hb1 hX1 hT1
  go_wp2_with fail
  go_loopw [19] (fun i wr => ∃ k : Nat, i = .int .i64 k ∧ k ≤ l.length ∧ Hid ((l.take k).findSome? (fieldIn L n d) = none) ∧ Hid (Below w1.heap.size w1 wr)) (fun i _ => l.length - (intOf i).toNat)
  case atStart => exact ⟨0, rfl, Nat.zero_le _, lhid rfl, lhid (Below.refl _ _)⟩
  case round =>
    obtain ⟨k, rfl, hk, HFN, HB⟩ := hrel
    have hbs := HB.out.size
    by_cases hlt : k < l.length
    · obtain ⟨x, hx⟩ : ∃ x, l[k]? = some x := ⟨_, List.getElem?_eq_getElem hlt⟩
      have hxn := HIN.out x (List.mem_of_getElem? hx)
      have hxl := short_name hSh.out hxn
      have HXA := lhid hx
      obtain ⟨ga, oa, cc, rfl, _, hE, hc⟩ := (HR1.out.below (keptX_st _) HB.out).at' hx
      have c0 : wr.cell? ⟨ga, oa + k, none⟩ = some (.string (tx x)) := by
        have := hc 0 (.string (tx x)) (by rw [show cc = [.string (tx x)] from hE]; rfl)
        rwa [Nat.mul_one] at this
      have k3 : (k : Int) < l.length := by omega
      have hTr := HT1.out.below HB.out
      obtain ⟨⟨cb, ab, nn, v0, g1, g2, g3, g4⟩, g6⟩ := hTr
      have t1 := heap_cell (i := 1) g1 rfl
      obtain ⟨ff, hm0, hfs⟩ := g3
      have HM := lhid hm0
      obtain ⟨c, hc⟩ := names_find hxn
      obtain ⟨u, hfu, cy, rfl, a', p', b', d', rfl, r1, r2, r3, r4⟩ := (hfs x).2 c hc
      obtain ⟨ya, da, rfl⟩ := r1.shape
      obtain ⟨yp, dp, rfl⟩ := r2.shape
      obtain ⟨yb, db, rfl⟩ := r3.shape
      obtain ⟨yd, dd, rfl⟩ := r4.shape
      have hfl := r3.len
      have HFU := lhid hfu
      have HC := lhid hc
      have R3 := lhid r3
      clear hx hE g1 g2 g4 g6 hm0 hfs hfu r1 r2 r3 r4 hc
      have hfd := fun w' => run_fields' c.flags (tx c.name) (tx c.super) ya yp yb yd c.ifaces.length c.pool.length c.fields.length c.methods.length da dp db dd w'
      go_wp2_with (at_lookup; refine wpList_look_mv _ rfl _ _ 97 rfl _ und_cm _ (zero_cl _) cb _ ff rfl HM.out x rfl hxl (.agg #[.int .i64 c.flags, .string (tx c.name), .string (tx c.super), .slice ya c.ifaces.length da, .slice yp c.pool.length dp, .slice yb c.fields.length db, .slice yd c.methods.length dd]) (by rw [HFU.out]; rfl) ?_)
      go_wp2_with fail
      go_loopw [31] (fun i wq => ∃ j : Nat, i = .int .i64 j ∧ j ≤ c.fields.length ∧ Hid ((c.fields.take j).find? (fldB n d) = none) ∧ Hid (Below wr.heap.size wr wq)) (fun i _ => c.fields.length - (intOf i).toNat)
      case atStart => exact ⟨0, rfl, Nat.zero_le _, lhid rfl, lhid (Below.refl _ _)⟩
      case round =>
        obtain ⟨j, rfl, hj, HFJ, HBj⟩ := hrel
        have hbj := HBj.out.size
        by_cases hlt2 : j < c.fields.length
        · obtain ⟨y, hy⟩ : ∃ y, c.fields[j]? = some y := ⟨_, List.getElem?_eq_getElem hlt2⟩
          obtain ⟨gb, ob, ce, rfl, _, hE, hcb⟩ := (R3.out.below (keptX_fl _) HBj.out).at' hy
          have d0 : wr.cell? ⟨gb, ob + j * 3, none⟩ = some (.int .i64 y.flags) := hcb 0 (.int .i64 y.flags) (by rw [show ce = _ from hE]; rfl)
          have d1 : wr.cell? ⟨gb, ob + j * 3 + 1, none⟩ = some (.string (tx y.name)) := hcb 1 (.string (tx y.name)) (by rw [show ce = _ from hE]; rfl)
          have d2 : wr.cell? ⟨gb, ob + j * 3 + 2, none⟩ = some (.string (tx y.desc)) := hcb 2 (.string (tx y.desc)) (by rw [show ce = _ from hE]; rfl)
          have k4 : (j : Int) < c.fields.length := by omega
          have HYJ := lhid hy
          have HBW := lhid (HB.out.trans (Below.less HBj.out hbs))
          clear hy hE hcb
          have hX2 := (HBW.out.block _ hlt1).trans HX1.out
          have HX2 := lhid hX2
          have hx2 := heap_lt hX2
          clear hX2
          have HA2 := lhid ((Below.refl wr.heap.size wr).alloc (Nat.le_refl _) (.cells #[.int .i64 y.flags, .string (tx y.name), .string (tx y.desc)] 91))
          have HX3 := lhid (heap_alloc_new wr (.cells #[.int .i64 y.flags, .string (tx y.name), .string (tx y.desc)] 91))
          have hX4 := (HA2.out.block _ hx2).trans HX2.out
          have HX4 := lhid hX4
          clear hX4
          by_cases hn1 : y.name = n
          · have e1 := tx_yes hn1
            by_cases hn2 : y.desc = d
            · have e2 := tx_yes hn2
              have hhit : fieldIn L n d x = some (x, y) := by
                unfold fieldIn
                rw [HC.out]
                show (c.fields.find? (fldB n d)).map _ = _
                rw [find_hit HFJ.out HYJ.out (by unfold fldB; simp [hn1, hn2])]
                rfl
              have HHIT := lhid (findSome_hit HFN.out HXA.out hhit)
              clear hhit hn1 hn2
              go_upto_region 8 with fail
              generalize wr.alloc (.cells #[.int .i64 y.flags, .string (tx y.name), .string (tx y.desc)] 91) = w5 at *
              have b0 := heap_cell (i := 0) HX3.out rfl
              have b1 := heap_cell (i := 1) HX3.out rfl
              have b2 := heap_cell (i := 2) HX3.out rfl
              have z0 := heap_thaw HX4.out 0
              have z1 := heap_thaw HX4.out 1
              have z2 := heap_thaw HX4.out 2
              have x0 := heap_cell (i := 0) HX4.out rfl
              have x1 := heap_cell (i := 1) HX4.out rfl
              have x2 := heap_cell (i := 2) HX4.out rfl
              have hbw := HBW.out.size
              have HB5 := lhid (Below.drew' (((((HB1.out.trans (Below.less HBW.out hw1)).trans (Below.less HA2.out (by omega))).setCell (p := ⟨w.heap.size, 0, none⟩) (Nat.le_refl _) (.int .i64 y.flags)).setCell (p := ⟨w.heap.size, 1, none⟩) (Nat.le_refl _) (.string (tx y.name))).setCell (p := ⟨w.heap.size, 2, none⟩) (Nat.le_refl _) (.string (tx y.desc))))
              go_region
              go_wp2_with fail
              refine bodyPost_ret (v := .tuple #[.string (tx x), .agg #[.int .i64 y.flags, .string (tx y.name), .string (tx y.desc)], .bool true]) (by simp [results, Tryz.results82, go_sem, x0, x1, x2]) rfl ?_
              exact ⟨x, y, true, rfl, ⟨l, HLI.out, .inr ⟨HHIT.out, rfl⟩⟩, HB5.out⟩
            · have e2 := tx_nes hn2
              have HN3 := lhid (find_take HFJ.out HYJ.out (show fldB n d y = false by unfold fldB; simp [hn2]))
              clear hn1 hn2
              go_wp2_with fail
              go_roundw
              case rel => first | exact ⟨j + 1, by go_num, by omega, HN3, lhid (HBj.out.trans (Below.less HA2.out hbj))⟩ | trace_state
              case measure => simp [intOf]; omega
          · have e1 := tx_nes hn1
            have HN3 := lhid (find_take HFJ.out HYJ.out (show fldB n d y = false by unfold fldB; simp [hn1]))
            clear hn1
            go_wp2_with fail
            go_roundw
            case rel => first | exact ⟨j + 1, by go_num, by omega, HN3, lhid (HBj.out.trans (Below.less HA2.out hbj))⟩ | trace_state
            case measure => simp [intOf]; omega
        · have k4 : ¬ (j : Int) < c.fields.length := by omega
          have e : j = c.fields.length := by omega
          subst e
          have hno : fieldIn L n d x = none := by
            unfold fieldIn
            rw [HC.out]
            have := HFJ.out
            rw [List.take_length] at this
            simp [this]
          have HN2 := lhid (findSome_take HFN.out HXA.out hno)
          clear hno
          go_wp2_with fail
          go_roundw
          case rel => first | exact ⟨k + 1, by go_num, by omega, HN2, lhid (HB.out.trans (Below.less HBj.out hbs))⟩ | exact ⟨_, _, _, .int .i64 ((k : Int) + 1), ⟨k + 1, by go_num, by omega, HN2, lhid (HB.out.trans (Below.less HBj.out hbs))⟩, rfl, rfl, rfl, rfl⟩ | trace_state
          case measure => simp [intOf]; omega
    · have k3 : ¬ (k : Int) < l.length := by omega
      have e : k = l.length := by omega
      subst e
      have hX2 := (HB.out.block _ hlt1).trans HX1.out
      have x0 := heap_cell (i := 0) hX2 rfl
      have x1 := heap_cell (i := 1) hX2 rfl
      have x2 := heap_cell (i := 2) hX2 rfl
      have z0 := heap_thaw hX2 0
      have z1 := heap_thaw hX2 1
      have z2 := heap_thaw hX2 2
      clear hX2
      go_wp2_with fail
      have hfin := HFN.out
      rw [List.take_length] at hfin
      refine bodyPost_ret (v := .tuple #[.string ⟨#[]⟩, .agg #[.int .i64 0, .string ⟨#[]⟩, .string ⟨#[]⟩], .bool false]) (by simp [results, Tryz.results82, go_sem, x0, x1, x2]) rfl ?_
      exact ⟨[], ⟨0, [], []⟩, false, rfl, ⟨l, HLI.out, .inl ⟨hfin, rfl, rfl, rfl⟩⟩, (((HB1.out.trans (Below.less HB.out hw1)).setCell (p := ⟨w.heap.size, 0, none⟩) (Nat.le_refl _) _).setCell (p := ⟨w.heap.size, 1, none⟩) (Nat.le_refl _) _).setCell (p := ⟨w.heap.size, 2, none⟩) (Nat.le_refl _) _⟩
end Go.Proofs.YtpdnonlelocfbaaGreatDoor
/- Class: a class by its name, copied. -/
namespace Go.Proofs.YtpdnonlelocfbaaGreatDoor
open Go.RowKit Go Go.Maps
set_option linter.unusedVariables false

set_option maxHeartbeats 8000000 in
set_option maxRecDepth 100000 in
theorem class_any (B tb : Nat) (L : List ClI) (s : Bs) (w : World) (hT : Hid (TreeOK B w tb L)) (hs : s.length ≤ maxLen) :
    Calls Tryz.prog 26 #[.pointer (some ⟨tb, 0, none⟩), .string (tx s)] w fun e w' => ∃ cs ok, e = .returned (.tuple #[.agg (cs : List Value).toArray, .bool ok]) ∧ ClassV (fun g => w.heap.size ≤ g) w' L s cs ok ∧ Below w.heap.size w w' := by
  have hB := (Below.refl w.heap.size w).alloc (Nat.le_refl _) (.cells #[.int .i64 0, .string ⟨#[]⟩, .string ⟨#[]⟩, .slice none 0 0, .slice none 0 0, .slice none 0 0, .slice none 0 0] 39)
  have HB := lhid hB
  have HT1 := lhid (hT.out.below hB)
  have HX0 := lhid (heap_alloc_new w (.cells #[.int .i64 0, .string ⟨#[]⟩, .string ⟨#[]⟩, .slice none 0 0, .slice none 0 0, .slice none 0 0, .slice none 0 0] 39))
  clear hB
  go_enter Tryz.func26, Tryz.ntmps26
  go_wp2_with fail
  with_reducible refine (find_any B tb L s _ HT1 hs).mono ?_
  rintro e w1 ⟨v, ok, rfl, hf, hb1⟩
  obtain ⟨x, a, p, b, d, rfl, ⟨r1, r2, r3, r4⟩, hx⟩ := findV_cls hf
  obtain ⟨xa, da, rfl⟩ := r1.shape
  obtain ⟨xp, dp, rfl⟩ := r2.shape
  obtain ⟨xb, db, rfl⟩ := r3.shape
  obtain ⟨xd, dd, rfl⟩ := r4.shape
  have HXX := lhid hx
  have HB1 := lhid (HB.out.trans (Below.less hb1 HB.out.size))
  have HX1 := lhid ((hb1.block _ (heap_lt HX0.out)).trans HX0.out)
  have hB2 := (Below.refl w1.heap.size w1).alloc (Nat.le_refl _) (.cells #[.int .i64 x.flags, .string (tx x.name), .string (tx x.super), .slice xa x.ifaces.length da, .slice xp x.pool.length dp, .slice xb x.fields.length db, .slice xd x.methods.length dd] 39)
  have HB2 := lhid hB2
  have R1 := lhid (r1.below (keptX_st _) hB2)
  have R2 := lhid (r2.below (keptX_co _) hB2)
  have R3 := lhid (r3.below (keptX_fl _) hB2)
  have R4 := lhid (r4.below (keptX_me _) hB2)
  have HX2 := lhid ((hB2.block _ (heap_lt HX1.out)).trans HX1.out)
  have hws := HB1.out.size
  have hlw : w.heap.size < (w1.alloc (.cells #[.int .i64 x.flags, .string (tx x.name), .string (tx x.super), .slice xa x.ifaces.length da, .slice xp x.pool.length dp, .slice xb x.fields.length db, .slice xd x.methods.length dd] 39)).heap.size := heap_lt HX2.out
  clear hf hb1 r1 r2 r3 r4 hx hB2
  go_wp2_with fail
  with_reducible refine (copyClass_any _ x (.slice xa x.ifaces.length da) (.slice xp x.pool.length dp) (.slice xb x.fields.length db) (.slice xd x.methods.length dd) _ R1 R2 R3 R4).mono ?_
  rintro e w2 ⟨cs, rfl, hE, hb2⟩
  have hlt0 := heap_lt HX2.out
  have HX3 := lhid ((hb2.block _ hlt0).trans HX2.out)
  have HB3 := lhid ((HB1.out.trans (Below.less HB2.out hws)).trans (Below.less hb2 (by simp; omega)))
  have hE' := clE_mono (Q := fun g => w.heap.size < g) (fun g hg _ => by simp at hg; omega) _ _ hE
  have HE := lhid hE'
  obtain ⟨a2, p2, b2, d2, rfl, s1, s2, s3, s4⟩ := hE
  obtain ⟨ya, ea, rfl⟩ := s1.shape
  obtain ⟨yp, ep, rfl⟩ := s2.shape
  obtain ⟨yb, eb, rfl⟩ := s3.shape
  obtain ⟨yd, ed, rfl⟩ := s4.shape
  have y0 := heap_cell (i := 0) HX3.out rfl
  have z0 := heap_thaw HX3.out 0
  have y1 := heap_cell (i := 1) HX3.out rfl
  have z1 := heap_thaw HX3.out 1
  have y2 := heap_cell (i := 2) HX3.out rfl
  have z2 := heap_thaw HX3.out 2
  have y3 := heap_cell (i := 3) HX3.out rfl
  have z3 := heap_thaw HX3.out 3
  have y4 := heap_cell (i := 4) HX3.out rfl
  have z4 := heap_thaw HX3.out 4
  have y5 := heap_cell (i := 5) HX3.out rfl
  have z5 := heap_thaw HX3.out 5
  have y6 := heap_cell (i := 6) HX3.out rfl
  have z6 := heap_thaw HX3.out 6
  clear hE' hb2 s1 s2 s3 s4
  go_wp2_with fail
  refine bodyPost_ret (v := .tuple #[.agg #[.int .i64 x.flags, .string (tx x.name), .string (tx x.super), .slice ya x.ifaces.length ea, .slice yp x.pool.length ep, .slice yb x.fields.length eb, .slice yd x.methods.length ed], .bool ok]) (by simp [results, Tryz.results26, go_sem, y0, y1, y2, y3, y4, y5, y6]) rfl ?_
  refine ⟨[.int .i64 x.flags, .string (tx x.name), .string (tx x.super), .slice ya x.ifaces.length ea, .slice yp x.pool.length ep, .slice yb x.fields.length eb, .slice yd x.methods.length ed], ok, rfl, ⟨x, ?_, HXX.out⟩, below_cells (b := w.heap.size) HB3.out (Nat.le_refl _) 0 [.int .i64 x.flags, .string (tx x.name), .string (tx x.super), .slice ya x.ifaces.length ea, .slice yp x.pool.length ep, .slice yb x.fields.length eb, .slice yd x.methods.length ed]⟩
  exact clE_mono (fun g hg _ => Nat.le_of_lt hg) _ _ (keptX_cl _ _ _ _ _ (fun g hg _ => setCells_other (b := w.heap.size) (by omega) [.int .i64 x.flags, .string (tx x.name), .string (tx x.super), .slice ya x.ifaces.length ea, .slice yp x.pool.length ep, .slice yb x.fields.length eb, .slice yd x.methods.length ed] 0 _) HE.out)
end Go.Proofs.YtpdnonlelocfbaaGreatDoor
