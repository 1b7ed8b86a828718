/- New: a tree of classes, or what is wrong. -/
import Derived.Test.YtkphpihggbbpkaaKinEnter
import Derived.Test.YtkphpihggbbpkaaKinOwnC
import Derived.Test.YtkphpihggbbpkaaKinCat
import Derived.Test.YtkphpihggbbpkaaKinClimb
namespace Go.Proofs.Ytkphpihggbbpkaa
open Go.RowKit Go Go.Maps
set_option linter.unusedVariables false

/-- May the classes of l have the parents and the interfaces that they name? -/
def KinOK (L l : List ClI) : Prop := ∀ c ∈ l, mayB L c c.super = true ∧ AreI L c.ifaces
/-- What New answers of l. -/
def NewE (l : List ClI) (x : Int) : Prop :=
  (40 < l.length ∧ x = 2) ∨ (l.length ≤ 40 ∧ ((l.any misB = true ∧ x = 20) ∨ (l.any misB = false ∧ ((¬ (names (ownL ++ l)).Nodup ∧ x = 23) ∨ ((names (ownL ++ l)).Nodup ∧ ((¬ KinOK (ownL ++ l) l ∧ x = 50) ∨ (KinOK (ownL ++ l) l ∧ (((∃ s ∈ names (ownL ++ l), Circ (ownL ++ l) s) ∧ x = 51) ∨ ((∀ s ∈ names (ownL ++ l), ¬ Circ (ownL ++ l) s) ∧ x = 0)))))))))
/-- Block tb is the tree of the classes L. -/
structure TreeOK (B : Nat) (w : World) (tb : Nat) (L : List ClI) : Prop where
  it : ∃ cb ab n v, Tr w tb cb ab v ∧ RdX (fun g => B ≤ g) 1 StE w v (names L) ∧ CM (fun g => B ≤ g) w cb L ∧ AM (fun g => B ≤ g) w ab n L (fun s => s ∈ names L)
  lt : B ≤ tb
def NewOut (l : List ClI) (w : World) (e : Ending) (w' : World) : Prop :=
  Below w.heap.size w w' ∧ ∃ x, NewE l x ∧ ((x ≠ 0 ∧ e = .returned (.tuple #[.pointer none, .int .i64 x])) ∨ (x = 0 ∧ ∃ tb, e = .returned (.tuple #[.pointer (some ⟨tb, 0, none⟩), .int .i64 0]) ∧ TreeOK w.heap.size w' tb (ownL ++ l)))
theorem cm_nil (Q : Nat → Prop) {w : World} {cb : Nat} (h : MV w cb 0 (fun _ => none)) : CM Q w cb [] := ⟨_, h, fun s => ⟨fun _ => rfl, fun c h => (by cases h)⟩⟩
theorem own_names : ∀ c ∈ ownL, c.name.length ≤ 60 ∧ c.super.length ≤ 60 ∧ c.ifaces = [] ∧ c.name ≠ [] := by
  intro c hc
  obtain ⟨c0, hc0, rfl⟩ := List.mem_map.1 hc
  simp only [own0, List.mem_cons, List.not_mem_nil, or_false] at hc0
  rcases hc0 with rfl | rfl | rfl | rfl | rfl | rfl | rfl | rfl | rfl | rfl | rfl | rfl | rfl <;> exact ⟨by decide, by decide, rfl, by decide⟩
theorem short_all {l : List ClI} (h : Short l) : Short (ownL ++ l) := by
  intro c hc
  rcases List.mem_append.1 hc with hc | hc
  · have := own_names c hc
    refine ⟨by unfold maxLen; omega, by unfold maxLen; omega, fun i hi => ?_⟩
    rw [this.2.2.1] at hi
    cases hi
  · exact h c hc
theorem closed_all {l : List ClI} (hm : l.any misB = false) (hk : KinOK (ownL ++ l) l) : Closed (ownL ++ l) := by
  constructor
  · intro c hc i hi
    rcases List.mem_append.1 hc with hc | hc
    · rw [(own_names c hc).2.2.1] at hi
      cases hi
    · have := (hk c hc).2.2 i hi
      unfold isI at this
      cases hf : findC (ownL ++ l) i with
      | none => rw [hf] at this; cases this
      | some y => exact find_names hf
  · intro h
    obtain ⟨c, hc, he⟩ := List.mem_map.1 h
    rcases List.mem_append.1 hc with hc | hc
    · exact (own_names c hc).2.2.2 he
    · have := List.any_eq_false.1 hm c hc
      unfold misB nameB at this
      rw [he] at this
      simp at this
theorem hasKin_cs (Q P : Nat → Prop) (L : List ClI) (tb cb ab : Nat) (v0 : Value) (c : ClI) (cs : List Value) (w : World) (hT : Hid (Tr w tb cb ab v0)) (hC : Hid (CM Q w cb L)) (h : Hid (ClE P w c cs)) (hs : c.super.length ≤ maxLen) (hi : Hid (∀ n ∈ c.ifaces, n.length ≤ maxLen)) :
    Calls Try.prog 22 #[.pointer (some ⟨tb, 0, none⟩), .agg cs.toArray] w fun e w' => ∃ r : Bool, e = .returned (.bool r) ∧ (r = true ↔ mayB L c c.super = true ∧ AreI L c.ifaces) ∧ Below w.heap.size w w' := by
  obtain ⟨a, p, b, d, rfl, ha, _⟩ := h.out
  exact hasKin_any Q P L tb cb ab v0 c a p b d w hT hC (lhid ha) hs hi
theorem ownL_len : ownL.length = 13 := rfl
set_option maxHeartbeats 16000000 in
set_option maxRecDepth 100000 in
theorem new_any (P : Nat → Prop) (v : Value) (l : List ClI) (w : World) (h : Hid (RdX P 7 (ClE P) w v l)) (hSh : Hid (Short l)) :
    Calls Try.prog 6 #[v] w (NewOut l w) := by
  obtain ⟨A, cap, rfl⟩ := h.out.shape
  have hlen := h.out.len
  by_cases h40 : 40 < l.length
  · have q : (l.length : Int) > 40 := by omega
    go_enter Try.func6, Try.ntmps6
    go_wp2_with fail
    go_ret2
    exact ⟨Below.refl _ _, 2, .inl ⟨h40, rfl⟩, .inl ⟨by decide, rfl⟩⟩
  have q : ¬ (l.length : Int) > 40 := by omega
  have hl40 : l.length ≤ 40 := by omega
  have hmm := @run_makeMap Try.prog
  have HNL : Hid (∀ c ∈ l, c.name.length ≤ maxLen) := lhid (fun c hc => (hSh.out c hc).1)
  go_enter Try.func6, Try.ntmps6
  go_wp2_with fail
  with_reducible refine (containsMis_any P (.slice A l.length cap) l _ h HNL).mono ?_
  rintro e w1 ⟨rfl, hb1⟩
  have HB1 := lhid hb1
  clear hb1
  cases hm : l.any misB with
  | true =>
    have HM := lhid hm
    clear hm
    go_wp2_with fail
    go_ret2
    exact ⟨HB1.out, 20, .inr ⟨hl40, .inl ⟨HM.out, rfl⟩⟩, .inl ⟨by decide, rfl⟩⟩
  | false =>
    have HM := lhid hm
    clear hm
    have HT0 : Hid (Tr (((w1.alloc (.map #[] 0)).alloc (.map #[] 0)).alloc (.cells #[.slice none 0 0, .map (some w1.heap.size), .map (some (w1.heap.size + 1))] 61)) (w1.heap.size + 1 + 1) w1.heap.size (w1.heap.size + 1) (.slice none 0 0)) := lhid (by
      have := heap_alloc_new ((w1.alloc (.map #[] 0)).alloc (.map #[] 0)) (.cells #[.slice none 0 0, .map (some w1.heap.size), .map (some (w1.heap.size + 1))] 61)
      simpa [Tr] using this)
    have HC0 := lhid (((mv_made w1).alloc (.map #[] 0)).alloc (.cells #[.slice none 0 0, .map (some w1.heap.size), .map (some (w1.heap.size + 1))] 61))
    have HA0 : Hid (MV (((w1.alloc (.map #[] 0)).alloc (.map #[] 0)).alloc (.cells #[.slice none 0 0, .map (some w1.heap.size), .map (some (w1.heap.size + 1))] 61)) (w1.heap.size + 1) 0 (fun _ => none)) := lhid (by
      have := (mv_made (w1.alloc (.map #[] 0))).alloc (.cells #[.slice none 0 0, .map (some w1.heap.size), .map (some (w1.heap.size + 1))] 61)
      simpa using this)
    have HB2 : Hid (Below w1.heap.size w1 (((w1.alloc (.map #[] 0)).alloc (.map #[] 0)).alloc (.cells #[.slice none 0 0, .map (some w1.heap.size), .map (some (w1.heap.size + 1))] 61))) := lhid ((((Below.refl _ _).alloc (Nat.le_refl _) _).alloc (by simp) _).alloc (by simp; omega) _)
    have HSZ2 : Hid ((((w1.alloc (.map #[] 0)).alloc (.map #[] 0)).alloc (.cells #[.slice none 0 0, .map (some w1.heap.size), .map (some (w1.heap.size + 1))] 61)).heap.size = w1.heap.size + 3) := lhid (by simp)
    have hw1 := HB1.out.size
    have hsz2 := HSZ2.out
    go_wp2_with fail
    generalize (((w1.alloc (.map #[] 0)).alloc (.map #[] 0)).alloc (.cells #[.slice none 0 0, .map (some w1.heap.size), .map (some (w1.heap.size + 1))] 61)) = w2 at *
    with_reducible refine (ownClasses_any w2).mono ?_
    rintro e w3 ⟨v3, rfl, hr3, hb3⟩
    obtain ⟨A3, c3, rfl⟩ := hr3.shape
    have hs3 := hb3.size
    have HB3 := lhid (HB2.out.trans (Below.less hb3 (by omega)))
    have HT3 := lhid (HT0.out.below hb3)
    have HC3 := lhid (HC0.out.below hb3)
    have HA3 := lhid (HA0.out.below hb3)
    have hB4 := (Below.refl w3.heap.size w3).alloc (Nat.le_refl _) (.cells #[.slice A3 ownL.length c3, .slice A l.length cap] 22)
    have HB4 := lhid hB4
    have HG4 := lhid (heap_alloc_new w3 (.cells #[.slice A3 ownL.length c3, .slice A l.length cap] 22))
    have HL1 := lhid ((hr3.below (keptX_cl _) hB4).mono (Q := fun g => g ≠ w1.heap.size + 1 + 1 ∧ g ≠ w1.heap.size) (E' := ClE fun g => g ≠ w1.heap.size + 1 + 1 ∧ g ≠ w1.heap.size) (clE_mono fun g hg _ => by constructor <;> omega) (fun g hg _ => by constructor <;> omega) cl_ne)
    have HL2 := lhid ((((h.out.mono (Q := fun g => g < w.heap.size) (E' := ClE fun g => g < w.heap.size) (clE_mono fun g _ hl => hl) (fun g _ hl => hl) cl_ne).below (keptX_cl _) HB1.out).below (keptX_cl _) (HB3.out.trans (Below.less hB4 (by omega)))).mono (Q := fun g => g ≠ w1.heap.size + 1 + 1 ∧ g ≠ w1.heap.size) (E' := ClE fun g => g ≠ w1.heap.size + 1 + 1 ∧ g ≠ w1.heap.size) (clE_mono fun g hg _ => by constructor <;> omega) (fun g hg _ => by constructor <;> omega) cl_ne)
    have HT4 := lhid (HT3.out.below hB4)
    have HC4 := lhid (HC3.out.below hB4)
    have HA4 := lhid (HA3.out.below hB4)
    clear hb3 hr3 hB4 hmm
    go_wp2_with fail
    generalize w3.alloc (.cells #[.slice A3 ownL.length c3, .slice A l.length cap] 22) = w4 at *
    have hs4 := HB4.out.size
    with_reducible refine (concat_cl (P := fun g => g ≠ w1.heap.size + 1 + 1 ∧ g ≠ w1.heap.size) (E := ClE fun g => g ≠ w1.heap.size + 1 + 1 ∧ g ≠ w1.heap.size) (row_cl _) w3.heap.size ownL l (.slice A3 ownL.length c3) (.slice A l.length cap) w4 HG4 HL1 HL2 2).mono ?_
    rintro e w5 ⟨v5, xs5, rfl, ho5, hr5, hb5⟩
    have hs5 := hb5.size
    have hll : (ownL ++ l).length ≤ 60 := by rw [List.length_append, ownL_len]; omega
    have HRD := lhid ((rdX_own (E := ClE fun g => g ≠ w1.heap.size + 1 + 1 ∧ g ≠ w1.heap.size) ho5 (by omega) (hr5.imp fun a c hc => keptX_cl _ _ _ _ _ (fun g _ hl => hb5.block g hl) hc)).mono (Q := fun g => g ≠ w1.heap.size + 1 + 1 ∧ g ≠ w1.heap.size ∧ g < w5.heap.size) (E' := ClE fun g => g ≠ w1.heap.size + 1 + 1 ∧ g ≠ w1.heap.size ∧ g < w5.heap.size) (clE_mono fun g hg hl => ⟨hg.1, hg.2, hl⟩) (fun g hg hl => ⟨by have := hg.1; omega, by have := hg.1; omega, hl⟩) cl_ne)
    have HT5 := lhid (HT4.out.below hb5)
    have HC5 := lhid (HC4.out.below hb5)
    have HA5 := lhid (HA4.out.below hb5)
    have HB5 : Hid (Below w1.heap.size w1 w5) := lhid ((HB3.out.trans (Below.less HB4.out (by omega))).trans (Below.less hb5 (by omega)))
    have HNS : Hid (∀ c ∈ ownL ++ l, c.name.length ≤ maxLen) := lhid (fun c hc => (short_all hSh.out c hc).1)
    clear hb5 ho5 hr5
    go_wp2_with fail
    with_reducible refine (enter_any (fun g => g ≠ w1.heap.size + 1 + 1 ∧ g ≠ w1.heap.size ∧ g < w5.heap.size) (w1.heap.size + 1 + 1) w1.heap.size (w1.heap.size + 1) v5 (ownL ++ l) w5 HRD (lhid (fun g hg => hg)) HT5 (lhid (cm_nil _ HC5.out)) (by omega) hll HNS).mono ?_
    rintro e w6 ⟨hch6, hcase⟩
    have HCh6 := lhid hch6
    have hs6 := hch6.size
    have HB6 : Hid (Below w1.heap.size w1 w6) := lhid (HB5.out.trans (Below.less (hch6.to (B := w1.heap.size) (by omega) (fun k hk => by omega)) (Nat.le_refl _)))
    have HBW : Hid (Below w.heap.size w w6) := lhid (HB1.out.trans (Below.less HB6.out hw1))
    have HA6 := lhid (HA5.out.ch hch6 (by omega))
    clear hch6
    rcases hcase with ⟨hnd, rfl⟩ | ⟨hnd, rfl, v6, xs6, hT6, ho6, hr6, hc6⟩
    · have HND := lhid hnd
      clear hnd
      go_wp2_with fail
      go_ret2
      exact ⟨HBW.out, 23, .inr ⟨hl40, .inr ⟨HM.out, .inl ⟨HND.out, rfl⟩⟩⟩, .inl ⟨by decide, rfl⟩⟩
    have HND := lhid hnd
    have HT6 := lhid hT6
    have HC6 := lhid hc6
    have HV6 := lhid ((rdX_own (E := StE) (l := names (ownL ++ l)) (by rw [show (names (ownL ++ l)).length = (ownL ++ l).length from List.length_map _]; exact ho6) (by rw [show (names (ownL ++ l)).length = (ownL ++ l).length from List.length_map _]; omega) hr6).any (Q := fun g => w5.heap.size ≤ g) (fun g hg => hg.1))
    have H6 := lhid (h.out.below (keptX_cl P) HBW.out)
    clear hnd hT6 ho6 hr6 hc6
    go_wp2_with fail
    go_loopw [25] (fun i wr => ∃ kk : Nat, i = .int .i64 kk ∧ kk ≤ l.length ∧ Hid (∀ c ∈ l.take kk, mayB (ownL ++ l) c c.super = true ∧ AreI (ownL ++ l) c.ifaces) ∧ Hid (Below w6.heap.size w6 wr)) (fun i _ => l.length - (intOf i).toNat)
    case atStart => exact ⟨0, rfl, Nat.zero_le _, lhid (by simp), lhid (Below.refl _ _)⟩
    case round =>
      obtain ⟨kk, rfl, hkk, HK, HB⟩ := hrel
      have hbs := HB.out.size
      by_cases hlt : kk < l.length
      · obtain ⟨x, hx⟩ : ∃ x, l[kk]? = some x := ⟨_, List.getElem?_eq_getElem hlt⟩
        have HX := lhid hx
        have hxm := List.mem_of_getElem? hx
        have hxs := hSh.out x hxm
        have HR := lhid (H6.out.below (keptX_cl P) HB.out)
        obtain ⟨ga, oa, cc, rfl, _, hE, hc⟩ := HR.out.at' hx
        have hc1 := row_cl P _ _ _ hE
        have HE := lhid hE
        have HCL := lhid hc1.1
        have HRA : Hid (wr.rangeAt ga (oa + kk * 7) cc) := lhid hc
        have HSZ : Hid ((Try.prog.info? 35).map (·.size) = some cc.length) := lhid (by rw [hc1.1]; exact sz_cl)
        have HSA : Hid ((Try.prog.info? 35).map (·.size) = some cc.toArray.size) := lhid (by simpa using HSZ.out)
        have HALL : Hid (cc.toArray.all (·.oneCell') = true) := lhid (all_oneCell_toArray hc1.2)
        have hth : (wr.alloc (.cells #[.int .i64 0, .string ⟨#[]⟩, .string ⟨#[]⟩, .slice none 0 0, .slice none 0 0, .slice none 0 0, .slice none 0 0] 35)).there wr.heap.size 0 7 := fun j hj => ⟨by
          rw [Nat.zero_add, heap_cell (heap_alloc_new wr _) (Array.getElem?_eq_getElem (by simpa using hj))]; rfl, heap_thaw (heap_alloc_new wr _) _⟩
        have HTA : Hid ((wr.alloc (.cells #[.int .i64 0, .string ⟨#[]⟩, .string ⟨#[]⟩, .slice none 0 0, .slice none 0 0, .slice none 0 0, .slice none 0 0] 35)).there wr.heap.size 0 cc.toArray.size) := lhid (by rw [show cc.toArray.size = 7 by simpa using hc1.1]; exact hth)
        have HRB : Hid (((wr.alloc (.cells #[.int .i64 0, .string ⟨#[]⟩, .string ⟨#[]⟩, .slice none 0 0, .slice none 0 0, .slice none 0 0, .slice none 0 0] 35)).setCells wr.heap.size 0 cc).rangeAt wr.heap.size 0 cc) := lhid (World.rangeAt_setCells_same _ _ _ _ (by rw [hc1.1]; exact hth))
        have HW2 : Hid (Below wr.heap.size wr ((wr.alloc (.cells #[.int .i64 0, .string ⟨#[]⟩, .string ⟨#[]⟩, .slice none 0 0, .slice none 0 0, .slice none 0 0, .slice none 0 0] 35)).setCells wr.heap.size 0 cc)) := lhid (below_cells ((Below.refl wr.heap.size wr).alloc (Nat.le_refl _) _) (Nat.le_refl _) _ _)
        have hsz1 : ((wr.alloc (.cells #[.int .i64 0, .string ⟨#[]⟩, .string ⟨#[]⟩, .slice none 0 0, .slice none 0 0, .slice none 0 0, .slice none 0 0] 35)).setCells wr.heap.size 0 cc).heap.size = wr.heap.size + 1 := by rw [setCells_size]; simp
        have HS1 := lhid hsz1
        have k3 : (kk : Int) < l.length := by omega
        have HES := lhid (keptX_cl P _ _ _ _ (fun b _ hl => HW2.out.block b hl) HE.out)
        have HTr := lhid ((HT6.out.below HB.out).below HW2.out)
        have HCr := lhid ((HC6.out.below HB.out).below HW2.out)
        have HXS := lhid hxs
        clear hx hxm hxs hc hE hc1 hth hsz1
        go_wp2_with (first | (refine wpList_load_mid rfl 35 _ rfl ga (oa + kk * 7) rfl cc _ HRA.out Try.underlying35 (by rfl) HSZ.out ?_) | (refine wpList_store_mid rfl 35 _ _ rfl wr.heap.size 0 cc.toArray rfl rfl HTA.out HSA.out HALL.out ?_) | (refine wpList_load_mid rfl 35 _ rfl wr.heap.size 0 rfl cc _ HRB.out Try.underlying35 (by rfl) HSZ.out ?_))
        refine (hasKin_cs _ P (ownL ++ l) (w1.heap.size + 1 + 1) w1.heap.size (w1.heap.size + 1) v6 x cc _ HTr HCr HES HXS.out.2.1 (lhid HXS.out.2.2)).mono ?_
        rintro e w7 ⟨r, rfl, hr7, hb7⟩
        have HR7 := lhid hr7
        have HB7 := lhid (HB.out.trans (Below.less (HW2.out.trans (Below.less hb7 (by rw [HS1.out]; omega))) hbs))
        clear hr7 hb7
        cases r with
        | false =>
          go_wp2_with fail
          go_ret2
          refine ⟨HBW.out.trans (Below.less HB7.out (by omega)), 50, .inr ⟨hl40, .inr ⟨HM.out, .inr ⟨HND.out, .inl ⟨fun hk => ?_, rfl⟩⟩⟩⟩, .inl ⟨by decide, rfl⟩⟩
          have := HR7.out.2 (hk x (List.mem_of_getElem? HX.out))
          cases this
        | true =>
          go_wp2_with fail
          go_roundw
          case rel => exact ⟨kk + 1, by go_num, by omega, lhid (fun c hc => by
            rw [take_next HX.out] at hc
            rcases List.mem_append.1 hc with hc | hc
            · exact HK.out c hc
            · simp at hc
              rw [hc]
              exact HR7.out.1 (by simp)), HB7⟩
          case measure => simp [intOf]; omega
      · have k3 : ¬ (kk : Int) < l.length := by omega
        have e : kk = l.length := by omega
        subst e
        rw [List.take_length] at HK
        have HKO : Hid (KinOK (ownL ++ l) l) := lhid HK.out
        go_wp2_with fail
        have HT8 := lhid (HT6.out.below HB.out)
        have HC8 := lhid (((HC6.out.below HB.out).mono (Q' := fun g => w5.heap.size ≤ g ∧ g < wr.heap.size) (fun g hg hl => ⟨hg, hl⟩)))
        have HA8 := lhid (HA6.out.below HB.out)
        with_reducible refine (climb_any (fun g => w5.heap.size ≤ g ∧ g < wr.heap.size) (ownL ++ l) (closed_all HM.out HKO.out) (short_all hSh.out) (by omega) (w1.heap.size + 1 + 1) w1.heap.size (w1.heap.size + 1) v6 wr HT8 HC8 HA8 (by omega) (by omega) (lhid (fun g hg => ⟨by omega, hg.2⟩))).mono ?_
        rintro e w9 ⟨hch9, hcase⟩
        have HB9 : Hid (Below w.heap.size w w9) := lhid ((HBW.out.trans (Below.less HB.out (by omega))).trans (hch9.to (by omega) (fun k hk => by omega)))
        have HT9 := lhid (HT8.out.ch hch9 (by omega))
        have HC9 := lhid (HC8.out.ch hch9 (by omega) (fun g hg => by omega))
        have HV9 := lhid ((HV6.out.below (keptX_st _) HB.out).ch (keptX_st _) hch9 (fun g hg => by omega))
        clear hch9
        rcases hcase with ⟨rfl, hcirc⟩ | ⟨rfl, hnc, n, ham⟩
        · have HCI := lhid hcirc
          clear hcirc
          go_wp2_with fail
          go_ret2
          exact ⟨HB9.out, 51, .inr ⟨hl40, .inr ⟨HM.out, .inr ⟨HND.out, .inr ⟨HKO.out, .inl ⟨HCI.out, rfl⟩⟩⟩⟩⟩, .inl ⟨by decide, rfl⟩⟩
        · have HNC := lhid hnc
          have HAM := lhid ham
          clear hnc ham
          go_wp2_with fail
          go_ret2
          refine ⟨HB9.out, 0, .inr ⟨hl40, .inr ⟨HM.out, .inr ⟨HND.out, .inr ⟨HKO.out, .inr ⟨HNC.out, rfl⟩⟩⟩⟩⟩, .inr ⟨rfl, w1.heap.size + 1 + 1, rfl, ⟨w1.heap.size, w1.heap.size + 1, n, v6, HT9.out, HV9.out.any (fun g hg => by omega), HC9.out.mono (fun g hg _ => by have := hg.1; omega), ?_⟩, by omega⟩⟩
          obtain ⟨f, q1, q2⟩ := HAM.out
          refine ⟨f, q1, fun s => ⟨fun hs => ?_, (q2 s).2⟩⟩
          obtain ⟨sb, S, q3, q4, q5, q6⟩ := (q2 s).1 hs
          exact ⟨sb, S, q3, q4, by have : wr.heap.size ≤ sb := q5; show w.heap.size ≤ sb; omega, q6⟩
end Go.Proofs.Ytkphpihggbbpkaa
