/- The walk of CodeWays. -/
import Derived.Test.YtifheohdgjamnaaCodeBack
import Derived.Test.YtifheohdgjamnaaCodeWays0
import Derived.Maps.Own
import Derived.Maps.OwnOps
import Derived.Maps.Views
namespace Go.Proofs.Ytifheohdgjamnaa
open Go.RowKit Go Go.Maps
set_option linter.unusedVariables false

theorem lawK : Keyed Try.prog 3 := int_keyed Try.underlying3
theorem zeroK (w : World) : (zeroValue 3).run Try.prog w = .ok (.int .i64 0) w := by kernel_rfl
theorem infoInt : (Try.prog.info? 3).map (fun i => (i.zero, i.size, i.bytes)) = some (some (.int .i64 0), 1, 8) := by kernel_rfl
/-- The map's datum says 1 of what P says, of all else 0. -/
def MapP (m : DataW Unit) (P : Int → Prop) : Prop := IsMap m ∧ ∀ z : Int, (P z → m.atKey (.int .i64 z) (.lit (.int .i64 0)) = .lit (.int .i64 1)) ∧ (¬ P z → m.atKey (.int .i64 z) (.lit (.int .i64 0)) = .lit (.int .i64 0))
theorem mapP_empty (P : Int → Prop) (h : ∀ z, ¬ P z) : MapP (.map []) P := ⟨isMap_empty, fun z => ⟨fun e => absurd e (h z), fun _ => rfl⟩⟩
theorem mapP_put {m : DataW Unit} {P Q : Int → Prop} (h : MapP m P) (k : Int) (hQ : ∀ z, Q z ↔ P z ∨ z = k) : MapP (m.put (.int .i64 k) (.lit (.int .i64 1))) Q := by
  refine ⟨h.1.put _ _, fun z => ?_⟩
  by_cases e : z = k
  · subst e
    exact ⟨fun _ => atKey_put_same h.1 (by trivial) _ _, fun hn => absurd ((hQ z).2 (.inr rfl)) hn⟩
  · have e2 : (Lit.int .i64 z) ≠ (.int .i64 k) := fun e3 => e (by injection e3)
    rw [atKey_put_other e2]
    exact ⟨fun hz => (h.2 z).1 (((hQ z).1 hz).resolve_right e), fun hz => (h.2 z).2 (fun hp => hz ((hQ z).2 (.inl hp)))⟩
theorem own_other {w w' : World} {B e s n B' e' s' n' : Nat} {v v' : Value} {xs xs' : List Value} (h : w.ownsRow B e s v n xs) (h' : w.ownsRow B' e' s' v' n' xs') (he : e ≠ e') (hg : w.grownBy w' v'.ownBlock) : w'.ownsRow B e s v n xs :=
  own_of h fun g hv => hg.block g (h.lt g hv).2 (fun e1 => by
    rcases h.2 with ⟨rfl, _⟩ | ⟨g1, c1, r1, rfl, _, h3, _⟩
    · simp [Value.ownBlock] at hv
    · rcases h'.2 with ⟨rfl, _⟩ | ⟨g2, c2, r2, rfl, _, h5, _⟩
      · simp [Value.ownBlock] at e1
      · simp [Value.ownBlock] at hv e1
        subst hv
        subst e1
        rw [h3] at h5
        injection h5 with h5
        injection h5 with _ h6 _
        exact he h6)
theorem own_map {w w' : World} {B e s n M : Nat} {v : Value} {xs : List Value} (h : w.ownsRow B e s v n xs) (hM : M < B) (hg : w.grownBy w' (some M)) : w'.ownsRow B e s v n xs :=
  own_of h fun g hv => hg.block g (h.lt g hv).2 (fun e1 => by have := own_lt h g hv; injection e1 with e1; omega)
def Key (Z : List Int) (k : Nat) (z : Int) : Prop := ∃ j, j < k ∧ z = (pl Z j : Int)
theorem key_on (Z : List Int) (k : Nat) (z : Int) : Key Z (k + 1) z ↔ Key Z k z ∨ z = (pl Z k : Int) := by
  unfold Key
  constructor
  · rintro ⟨j, hj, rfl⟩
    by_cases e : j = k
    · subst e; exact .inr rfl
    · exact .inl ⟨j, by omega, rfl⟩
  · rintro (⟨j, hj, rfl⟩ | rfl)
    · exact ⟨j, by omega, rfl⟩
    · exact ⟨k, by omega, rfl⟩
theorem own_bytes {w : World} {B : Nat} {A : Option Addr} {c n : Nat} {l : Bs} {xs : List Value} (h : w.ownsRow B 5 1 (.slice A n c) n xs) (hn : n = l.length) (hx : xs = l.flatMap bytE) : OwB w B (.slice A l.length c) l := by
  subst hn hx
  exact h
set_option maxHeartbeats 16000000 in
set_option maxRecDepth 100000 in
theorem CodeWays_walk (v : Value) (Z : List Int) (t0 : Int) (w : World) (h : RdI w v Z) :
    Calls Try.prog 7 #[v, .int .i64 t0] w fun e w' => e = .returned (.bool true) ∧ Below w.heap.size w w' := by
  obtain ⟨A0, cA, rfl⟩ := h.shape
  have hlen := h.len
  have H := lhid h
  clear h
  by_cases h3 : 300 < Z.length
  · have q3 : (300 : Int) < Z.length := by omega
    go_enter Try.func7, Try.ntmps7
    go_wp2_with fail
    with_reducible refine (holds_any _).mono ?_
    rintro e w1 ⟨rfl, hb1⟩
    have HB1 := lhid hb1
    clear hb1
    go_wp2_with fail
    go_ret
    exact ⟨rfl, HB1.out⟩
  have q3 : ¬ (300 : Int) < Z.length := by omega
  have hZ : Z.length ≤ 300 := by omega
  clear h3
  obtain ⟨i0, hi0, hz0, hz1, hz2⟩ := info_parts infoBy
  obtain ⟨j0, hj0, hy0, hy1, hy2⟩ := info_parts infoInt
  have hmm := @run_makeMap Try.prog
  go_enter Try.func7, Try.ntmps7
  go_wp2_with fail
  with_reducible refine (holds_any _).mono ?_
  rintro e w1 ⟨rfl, hb1⟩
  have HB1 := lhid hb1
  have H1 := lhid (H.out.below hb1)
  clear hb1
  go_wp2_with fail
  go_loopw [6, 8, 22] (fun b pv i wr => ∃ (Bt : Bs) (A A2 : Option Addr) (c c2 k : Nat) (xs : List Value) (m : DataW Unit), b = .slice A Bt.length c ∧ pv = .slice A2 k c2 ∧ i = .int .i64 k ∧ k ≤ Z.length ∧ Hid (cod (Z.take k) = Bt) ∧ Bt.length ≤ 3 * k ∧ Hid (OwB wr (w1.heap.size + 1) (.slice A Bt.length c) Bt) ∧ Hid (wr.ownsRow (w1.heap.size + 1) 3 1 (.slice A2 k c2) k xs) ∧ Hid (wr.ownsMap Try.prog 3 (plainElem (H := Unit) Try.prog 3) w1.heap.size k m) ∧ Hid (MapP m (Key Z k)) ∧ Hid (Below w1.heap.size w1 wr)) (fun _ _ i _ => Z.length - (intOf i).toNat)
  case atStart => exact ⟨[], none, none, 0, 0, 0, [], .map [], rfl, rfl, rfl, Nat.zero_le _, lhid rfl, Nat.le_refl _, lhid (World.ownsRow_nil _ _ _ _), lhid (World.ownsRow_nil _ _ _ _), lhid (World.ownsMap_made _ _ _ _), lhid (mapP_empty _ (by rintro z ⟨j, hj, _⟩; omega)), lhid ((Below.refl _ _).alloc (Nat.le_refl _) _)⟩
  case round =>
    obtain ⟨Bt, A, A2, c, c2, k, xs, m, rfl, rfl, rfl, hk, HBt, hbl, HO, HP, HM, HMP, HB⟩ := hrel
    clear hmm
    by_cases hlt : k < Z.length
    · obtain ⟨z, hx⟩ : ∃ z, Z[k]? = some z := ⟨_, List.getElem?_eq_getElem hlt⟩
      obtain ⟨g, o, rfl, hc⟩ := (H1.out.below HB.out).at' hx
      have c0 : wr.cell? ⟨g, o + k, none⟩ = some (.int .i64 z) := by
        have := hc 0 (.int .i64 z) rfl
        rwa [Nat.mul_one] at this
      have HX := lhid hx
      have k3 : (k : Int) < Z.length := by omega
      have hpk : pl Z k = Bt.length := by unfold pl; rw [HBt.out]
      have HPK := lhid hpk
      have HMP2 := lhid (mapP_put HMP.out (pl Z k : Int) (key_on Z k))
      rw [hpk] at HMP2
      have HBN := lhid (cod_on hx)
      rw [HBt.out] at HBN
      have hkey : keyOf Try.prog 3 (.int .i64 (Bt.length : Int)) = some (.int .i64 (Bt.length : Int)) := keyOf_int_mk Try.underlying3 (WalkArith.wf_i64 (by omega))
      have tt := tmod_in z 3 (by omega)
      have t1 : -3 < z.tmod 3 := tt.1
      have t2 : z.tmod 3 < 3 := tt.2
      clear hx hc hpk tt
      go_wp2_with (at_mapUpdate; refine wpList_mapUpdate_own _ rfl _ _ _ 42 rfl 3 3 lawK Try.underlying42 _ w1.heap.size k _ rfl HM.out (by unfold maxLen; omega) _ _ _ rfl rfl hkey _ [] (plainElem_int Try.underlying3 (WalkArith.wf_i64 (by omega))) ?_)
      intro w2 hown2 hgrow2
      have HM2 := lhid hown2
      have HO2 := lhid (own_map HO.out (Nat.lt_succ_self _) hgrow2)
      have HP2 := lhid (own_map HP.out (Nat.lt_succ_self _) hgrow2)
      have HB2 := lhid (HB.out.grown hgrow2 HB.out.size (fun q hq => by injection hq with hq; omega))
      have hbs2 := HB2.out.size
      have hml2 := HM2.out.lt
      clear hown2 hgrow2
      go_wp2_with (at_builtin; refine wpList_append_own _ rfl (.tmp 29) (.tmp 32) 41 rfl (w1.heap.size + 1) 3 j0 ((.int .i64 0)) 1 8 Try.underlying41 hj0 hy0 hy1 hy2 rfl (by decide) (.slice A2 (k) c2) (k) (xs) rfl (HP2.out.alloc _) ⟨w2.heap.size, 0, none⟩ 1 1 [.int .i64 (Bt.length : Int)] rfl rfl ?a1 ?a2 ?a3 ?a4 ?a5 ?_)
      case a1 => exact new_cells' w2 [.int .i64 (Bt.length : Int)] _ _ (by simp)
      case a2 => intro u hu; simp at hu; subst hu; simp [Value.oneCell']
      case a3 => unfold maxLen; omega
      case a4 => omega
      case a5 => simp; omega
      intro v3 w3 hown hgrow _
      obtain ⟨A3, c3, rfl⟩ := own_shape hown
      have HP3 := lhid hown
      have hge := own_lt (HP2.out.alloc (.cells #[.int .i64 (Bt.length : Int)] 3))
      have HO3 := lhid (own_other (HO2.out.alloc (.cells #[.int .i64 (Bt.length : Int)] 3)) (HP2.out.alloc _) (by decide) hgrow)
      have HM3 := lhid ((HM2.out.alloc (.cells #[.int .i64 (Bt.length : Int)] 3)).kept hgrow (fun e => by have := hge _ e.symm; omega))
      have HB3 := lhid ((HB2.out.alloc hbs2 (.cells #[.int .i64 (Bt.length : Int)] 3)).grown hgrow (by simp; omega) (fun q hq => by have := hge q hq; omega))
      have hbs3 := HB3.out.size
      have hml3 := HM3.out.lt
      clear hown hgrow hge
      rcases r3_in z with hr | hr | hr
      · have HI : Hid (insB z = [0]) := lhid (by unfold insB; simp [hr])
        have hr1 : (z.tmod 3 + 3).tmod 3 = 0 := hr
        have hr2 : (z.tmod 3 + 3) % 3 = 0 := by rw [← tmod_pos' (by omega)]; exact hr
        clear hr
        go_wp2_with (at_builtin; refine wpList_append_own _ rfl (.tmp 43) (.tmp 44) 22 rfl (w1.heap.size + 1) 5 i0 ((.int .u8 0)) 1 1 Try.underlying22 hi0 hz0 hz1 hz2 rfl (by decide) (.slice A (Bt.length) c) (Bt.length) (Bt.flatMap bytE) rfl (HO3.out.alloc _) ⟨w3.heap.size, 0, none⟩ 1 1 [.int .u8 0] rfl rfl ?b1 ?b2 ?b3 ?b4 ?b5 ?_)
        case b1 => exact new_cells' w3 [.int .u8 0] _ _ (by simp)
        case b2 => intro u hu; simp at hu; subst hu; simp [Value.oneCell']
        case b3 => unfold maxLen; omega
        case b4 => omega
        case b5 => simp; omega
        intro v4 w4 hown hgrow _
        obtain ⟨A4, c4, rfl⟩ := own_shape hown
        have HO4 := lhid (own_bytes (l := Bt ++ insB z) hown (by rw [HI.out]; simp) (by rw [HI.out]; simp [bytE]))
        have hge := own_lt (HO3.out.alloc (.cells #[.int .u8 0] 5))
        have HP4 := lhid (own_other (HP3.out.alloc (.cells #[.int .u8 0] 5)) (HO3.out.alloc _) (by decide) hgrow)
        have HM4 := lhid ((HM3.out.alloc (.cells #[.int .u8 0] 5)).kept hgrow (fun e => by have := hge _ e.symm; omega))
        have HB4 := lhid ((HB3.out.alloc hbs3 (.cells #[.int .u8 0] 5)).grown hgrow (by simp; omega) (fun q hq => by have := hge q hq; omega))
        clear hown hgrow hge
        go_wp2
        go_roundw
        case rel => exact ⟨Bt ++ insB z, A4, A3, c4, c3, k + 1, _, _, by rw [HI.out]; simp, by simp, by go_num, by omega, HBN, by rw [HI.out]; simp; omega, HO4, HP4, HM4, HMP2, HB4⟩
        case measure => simp [intOf]; omega
      · have HI : Hid (insB z = [16, 5]) := lhid (by unfold insB; simp [hr])
        have hr1 : (z.tmod 3 + 3).tmod 3 = 1 := hr
        have hr2 : (z.tmod 3 + 3) % 3 = 1 := by rw [← tmod_pos' (by omega)]; exact hr
        clear hr
        go_wp2_with (at_builtin; refine wpList_append_own _ rfl (.tmp 48) (.tmp 49) 22 rfl (w1.heap.size + 1) 5 i0 ((.int .u8 0)) 1 1 Try.underlying22 hi0 hz0 hz1 hz2 rfl (by decide) (.slice A (Bt.length) c) (Bt.length) (Bt.flatMap bytE) rfl (HO3.out.alloc _) ⟨w3.heap.size, 0, none⟩ 2 2 [.int .u8 16, .int .u8 5] rfl rfl ?b1 ?b2 ?b3 ?b4 ?b5 ?_)
        case b1 => exact new_cells' w3 [.int .u8 16, .int .u8 5] _ _ (by simp)
        case b2 => intro u hu; simp at hu; rcases hu with rfl | rfl <;> simp [Value.oneCell']
        case b3 => unfold maxLen; omega
        case b4 => omega
        case b5 => simp; omega
        intro v4 w4 hown hgrow _
        obtain ⟨A4, c4, rfl⟩ := own_shape hown
        have HO4 := lhid (own_bytes (l := Bt ++ insB z) hown (by rw [HI.out]; simp) (by rw [HI.out]; simp [bytE]))
        have hge := own_lt (HO3.out.alloc (.cells #[.int .u8 16, .int .u8 5] 5))
        have HP4 := lhid (own_other (HP3.out.alloc (.cells #[.int .u8 16, .int .u8 5] 5)) (HO3.out.alloc _) (by decide) hgrow)
        have HM4 := lhid ((HM3.out.alloc (.cells #[.int .u8 16, .int .u8 5] 5)).kept hgrow (fun e => by have := hge _ e.symm; omega))
        have HB4 := lhid ((HB3.out.alloc hbs3 (.cells #[.int .u8 16, .int .u8 5] 5)).grown hgrow (by simp; omega) (fun q hq => by have := hge q hq; omega))
        clear hown hgrow hge
        go_wp2
        go_roundw
        case rel => exact ⟨Bt ++ insB z, A4, A3, c4, c3, k + 1, _, _, by rw [HI.out]; simp, by simp, by go_num, by omega, HBN, by rw [HI.out]; simp; omega, HO4, HP4, HM4, HMP2, HB4⟩
        case measure => simp [intOf]; omega
      · have HI : Hid (insB z = [17, 1, 1]) := lhid (by unfold insB; simp [hr])
        have hr1 : (z.tmod 3 + 3).tmod 3 = 2 := hr
        have hr2 : (z.tmod 3 + 3) % 3 = 2 := by rw [← tmod_pos' (by omega)]; exact hr
        clear hr
        go_wp2_with (at_builtin; refine wpList_append_own _ rfl (.tmp 38) (.tmp 39) 22 rfl (w1.heap.size + 1) 5 i0 ((.int .u8 0)) 1 1 Try.underlying22 hi0 hz0 hz1 hz2 rfl (by decide) (.slice A (Bt.length) c) (Bt.length) (Bt.flatMap bytE) rfl (HO3.out.alloc _) ⟨w3.heap.size, 0, none⟩ 3 3 [.int .u8 17, .int .u8 1, .int .u8 1] rfl rfl ?b1 ?b2 ?b3 ?b4 ?b5 ?_)
        case b1 => exact new_cells' w3 [.int .u8 17, .int .u8 1, .int .u8 1] _ _ (by simp)
        case b2 => intro u hu; simp at hu; rcases hu with rfl | rfl | rfl <;> simp [Value.oneCell']
        case b3 => unfold maxLen; omega
        case b4 => omega
        case b5 => simp; omega
        intro v4 w4 hown hgrow _
        obtain ⟨A4, c4, rfl⟩ := own_shape hown
        have HO4 := lhid (own_bytes (l := Bt ++ insB z) hown (by rw [HI.out]; simp) (by rw [HI.out]; simp [bytE]))
        have hge := own_lt (HO3.out.alloc (.cells #[.int .u8 17, .int .u8 1, .int .u8 1] 5))
        have HP4 := lhid (own_other (HP3.out.alloc (.cells #[.int .u8 17, .int .u8 1, .int .u8 1] 5)) (HO3.out.alloc _) (by decide) hgrow)
        have HM4 := lhid ((HM3.out.alloc (.cells #[.int .u8 17, .int .u8 1, .int .u8 1] 5)).kept hgrow (fun e => by have := hge _ e.symm; omega))
        have HB4 := lhid ((HB3.out.alloc hbs3 (.cells #[.int .u8 17, .int .u8 1, .int .u8 1] 5)).grown hgrow (by simp; omega) (fun q hq => by have := hge q hq; omega))
        clear hown hgrow hge
        go_wp2
        go_roundw
        case rel => exact ⟨Bt ++ insB z, A4, A3, c4, c3, k + 1, _, _, by rw [HI.out]; simp, by simp, by go_num, by omega, HBN, by rw [HI.out]; simp; omega, HO4, HP4, HM4, HMP2, HB4⟩
        case measure => simp [intOf]; omega
    · obtain rfl : k = Z.length := by omega
      have k3 : ¬ (Z.length : Int) < Z.length := by omega
      have hbt := HBt.out
      rw [List.take_length] at hbt
      have HBT := lhid hbt
      have hpk : pl Z Z.length = Bt.length := by rw [pl_end, hbt]
      have HMP2 := lhid (mapP_put HMP.out (pl Z Z.length : Int) (key_on Z Z.length))
      rw [hpk] at HMP2
      have hkey : keyOf Try.prog 3 (.int .i64 (Bt.length : Int)) = some (.int .i64 (Bt.length : Int)) := keyOf_int_mk Try.underlying3 (WalkArith.wf_i64 (by omega))
      have tt := tmod_in t0 ((Bt.length : Int) + 5) (by omega)
      obtain ⟨u, hu⟩ : ∃ u, t0.tmod ((Bt.length : Int) + 5) = u := ⟨_, rfl⟩
      rw [hu] at tt
      have t1 : -((Bt.length : Int) + 5) < u := tt.1
      have t2 : u < (Bt.length : Int) + 5 := tt.2
      have t3 : ¬ (Bt.length : Int) + 5 = 0 := by omega
      obtain ⟨y, hyv⟩ : ∃ y, (u + (Bt.length : Int) + 5) % ((Bt.length : Int) + 5) = y := ⟨_, rfl⟩
      have y1 : 0 ≤ y := by rw [← hyv]; exact Int.emod_nonneg _ t3
      have y2 : y < (Bt.length : Int) + 5 := by rw [← hyv]; exact Int.emod_lt_of_pos _ (by omega)
      have t4 : (((Bt.length : Int) + 5) == 0) = false := by rw [beq_eq_false_iff_ne]; omega
      clear hbt hpk tt
      go_wp2_with (at_mapUpdate; refine wpList_mapUpdate_own _ rfl _ _ _ 42 rfl 3 3 lawK Try.underlying42 _ w1.heap.size Z.length _ rfl HM.out (by unfold maxLen; omega) _ _ _ rfl rfl hkey _ [] (plainElem_int Try.underlying3 (WalkArith.wf_i64 (by omega))) ?_)
      intro w2 hown2 hgrow2
      have HM2 := lhid hown2
      have HO2 := lhid (own_map HO.out (Nat.lt_succ_self _) hgrow2)
      have HB2 := lhid (HB.out.grown hgrow2 HB.out.size (fun q hq => by injection hq with hq; omega))
      have hbs2 := HB2.out.size
      have hml2 := HM2.out.lt
      clear hown2 hgrow2 hkey
      go_wp2_with (at_builtin; refine wpList_append_own _ rfl (.tmp 74) (.tmp 80) 22 rfl (w1.heap.size + 1) 5 i0 (.int .u8 0) 1 1 Try.underlying22 hi0 hz0 hz1 hz2 rfl (by decide) (.slice A Bt.length c) Bt.length (Bt.flatMap bytE) rfl (HO2.out.alloc _) ⟨w2.heap.size, 0, none⟩ 3 3 [.int .u8 167, .int .u8 ((y - 1 - (Bt.length : Int)) / 256 % 256), .int .u8 ((y - 1 - (Bt.length : Int)) % 256)] rfl rfl ?b1 ?b2 ?b3 ?b4 ?b5 ?_)
      case b1 => exact new_cells' w2 [.int .u8 167, .int .u8 ((y - 1 - (Bt.length : Int)) / 256 % 256), .int .u8 ((y - 1 - (Bt.length : Int)) % 256)] _ _ (by simp)
      case b2 => intro u hu; simp at hu; rcases hu with rfl | rfl | rfl <;> simp [Value.oneCell']
      case b3 => unfold maxLen; omega
      case b4 => omega
      case b5 => simp; omega
      intro v3 w3 hown hgrow _
      obtain ⟨A3, c3, rfl⟩ := own_shape hown
      have hge := own_lt (HO2.out.alloc (.cells #[.int .u8 167, .int .u8 ((y - 1 - (Bt.length : Int)) / 256 % 256), .int .u8 ((y - 1 - (Bt.length : Int)) % 256)] 5))
      have HM3 := lhid ((HM2.out.alloc (.cells #[.int .u8 167, .int .u8 ((y - 1 - (Bt.length : Int)) / 256 % 256), .int .u8 ((y - 1 - (Bt.length : Int)) % 256)] 5)).kept hgrow (fun e => by have := hge _ e.symm; omega))
      have HB3 := lhid ((HB2.out.alloc hbs2 (.cells #[.int .u8 167, .int .u8 ((y - 1 - (Bt.length : Int)) / 256 % 256), .int .u8 ((y - 1 - (Bt.length : Int)) % 256)] 5)).grown hgrow (by simp; omega) (fun q hq => by have := hge q hq; omega))
      have hNc : ((cod Z).length : Int) = Bt.length := by rw [HBT.out]
      obtain ⟨F, hF⟩ : ∃ F, way Z (by8 ((y - 1 - (cod Z).length) / 256)) (by8 (y - 1 - (cod Z).length)) = F := ⟨_, rfl⟩
      have hFl : F.length = Bt.length + 3 := by rw [← hF, way_len, HBT.out]
      have HF := lhid (own_bytes (l := F) hown hFl.symm (by rw [← hF]; unfold way; rw [hNc, HBT.out]; simp [bytE, by8_val]))
      have HV := lhid (bts_own HF.out (by omega))
      have hdec := decR_way Z (y - 1) hZ (by omega) (by omega)
      rw [hF] at hdec
      have HDEC := lhid hdec
      have hla := last_a Z (y - 1 - (cod Z).length) (by omega) (by omega)
      rw [hF] at hla
      have HLA : Hid ((opAt F (cod Z).length).a = y - 1) := lhid (by rw [hla.1]; omega)
      have HFL := lhid hFl
      have hFl3 : F.length = Bt.length + 3 := hFl
      clear hown hgrow hge hdec hla hF hFl hNc hyv
      rw [hFl3] at HV
      by_cases hw : Key Z (Z.length + 1) (y - 1)
      · have HAT := lhid ((HMP2.out.2 (y - 1)).1 hw)
        have HD := lhid (HDEC.out.1 (by obtain ⟨j, hj, e⟩ := hw; exact ⟨j, by omega, e⟩))
        clear hw
        go_wp2_with fail
        with_reducible refine (decode_any F _ _ HV).mono ?_
        rw [HD.out]
        rintro e w4 ⟨⟨v4, rfl, hv4⟩, hb4⟩
        have HB4 := lhid (HB1.out.trans ((HB3.out.trans (hb4.mono HB3.out.size)).mono HB1.out.size))
        have HM4 := lhid (HM3.out.kept (⟨hb4.os, hb4.tape, hb4.output, hb4.size, fun q hq _ => hb4.block q hq⟩ : w3.grownBy w4 none) (by simp))
        obtain ⟨A4, c4, rfl⟩ := hv4.shape
        obtain ⟨g, o, rfl, hc⟩ := hv4.at' (i := Z.length) (a := opAt F (cod Z).length) (by rw [ops_on, List.getElem?_append_right (by rw [ops_len]; exact Nat.le_refl _), ops_len, Nat.sub_self, pl_end]; rfl)
        obtain ⟨d0, d1, d2, d3⟩ := cell4 hc
        rw [HLA.out] at d2
        rw [ops_len]
        clear hc d0 d1 d3
        clear hv4 hb4
        have hkey : keyOf Try.prog 3 (.int .i64 (y - 1)) = some (.int .i64 (y - 1)) := keyOf_int_mk Try.underlying3 (WalkArith.wf_i64 (by omega))
        go_wp2_with (at_lookup; refine wpList_lookup_own_int _ rfl _ _ 42 rfl 3 3 .i64 lawK Try.underlying42 Try.underlying3 (zeroK _) w1.heap.size _ _ rfl HM4.out _ _ rfl hkey ?_)
        intro c5 hat hwc
        obtain rfl : c5 = 1 := by
          rw [HAT.out] at hat
          injection hat with hat
          injection hat with _ hat2
          exact hat2.symm
        clear hat hwc hkey
        go_wp2_with fail
        go_ret
        exact ⟨rfl, HB4.out⟩
      · have HAT := lhid ((HMP2.out.2 (y - 1)).2 hw)
        have HD := lhid (HDEC.out.2 (by rintro ⟨j, hj, e⟩; exact hw ⟨j, by omega, e⟩))
        clear hw
        go_wp2_with fail
        with_reducible refine (decode_any F _ _ HV).mono ?_
        rw [HD.out]
        rintro e w4 ⟨⟨v4, rfl, hv4⟩, hb4⟩
        have HB4 := lhid (HB1.out.trans ((HB3.out.trans (hb4.mono HB3.out.size)).mono HB1.out.size))
        have HM4 := lhid (HM3.out.kept (⟨hb4.os, hb4.tape, hb4.output, hb4.size, fun q hq _ => hb4.block q hq⟩ : w3.grownBy w4 none) (by simp))
        obtain ⟨A4, c4, rfl⟩ := hv4.shape
        have hnil : ([] : List Cop).length = 0 := rfl
        rw [hnil]
        clear hv4 hb4
        have hkey : keyOf Try.prog 3 (.int .i64 (y - 1)) = some (.int .i64 (y - 1)) := keyOf_int_mk Try.underlying3 (WalkArith.wf_i64 (by omega))
        go_wp2_with (at_lookup; refine wpList_lookup_own_int _ rfl _ _ 42 rfl 3 3 .i64 lawK Try.underlying42 Try.underlying3 (zeroK _) w1.heap.size _ _ rfl HM4.out _ _ rfl hkey ?_)
        intro c5 hat hwc
        obtain rfl : c5 = 0 := by
          rw [HAT.out] at hat
          injection hat with hat
          injection hat with _ hat2
          exact hat2.symm
        clear hat hwc hkey
        go_wp2_with fail
        go_ret
        exact ⟨rfl, HB4.out⟩
end Go.Proofs.Ytifheohdgjamnaa
