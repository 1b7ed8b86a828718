/- A function trimmed: the document's Trim. -/
import Derived.Test.YtifgkpfieapdjaaM10
import Derived.Deep.AppendLies
import Derived.Deep.RegionLaw
namespace Go.Proofs.Ytifgkpfieapdjaa
open Go.RowKit Go
set_option linter.unusedVariables false
set_option linter.unusedSimpArgs false

theorem now_no {c : List InI} {R : List Bool} {k : Nat} (h : stayB c R k = false) : nowN c R (k + 1) = nowN c R k := by
  show (if stayB c R k then _ else _) = _
  rw [h]
  rfl
theorem now_yes {c : List InI} {R : List Bool} {k : Nat} (h : stayB c R k = true) : nowN c R (k + 1) = nowN c R k + 1 := by
  show (if stayB c R k then _ else _) = _
  rw [h]
  rfl
theorem trT_skip {c : List InI} {R : List Bool} {k : Nat} {x : InI} (hx : c[k]? = some x) (h : stayB c R k = false) : trT c (nowN c R) (k + 1) = trT c (nowN c R) k := trT_no hx (by rw [now_no h]; omega)
theorem trT_keep {c : List InI} {R : List Bool} {k : Nat} {x : InI} (hx : c[k]? = some x) (h : stayB c R k = true) : trT c (nowN c R) (k + 1) = trT c (nowN c R) k ++ [trX (nowN c R) x] := trT_yes hx (by rw [now_yes h]; omega)
theorem OwC.below {P : Nat → Prop} {w0 w w' : World} {B : Nat} {v : Value} {L : List InI} (h : OwC P w0 w B v L) (hb : Below w.heap.size w w') : OwC P w0 w' B v L := by
  obtain ⟨xs, h1, h2⟩ := h
  exact ⟨xs, own_below h1 hb, h2⟩
theorem OwC.setG {P : Nat → Prop} {w0 w : World} {B g i : Nat} {v u : Value} {L : List InI} (h : OwC P w0 w B v L) (hg : g < B) : OwC P w0 (w.setCell ⟨g, i, none⟩ u) B v L := by
  obtain ⟨xs, h1, h2⟩ := h
  exact ⟨xs, own_of h1 fun b hb => Below.heap_setCell _ _ _ _ (by have := own_lt h1 b hb; show b ≠ g; omega), h2⟩
set_option maxHeartbeats 32000000 in
set_option maxRecDepth 100000 in
theorem rtrim_any {P : Nat → Prop} (f : FuI) (fa fb fd fe : Value) (w : World) (h : Hid (FuV P w f fa fb fd fe)) (hq : Hid (FuQ f)) (hcap : Hid (∀ A n cap, fb = .slice A n cap → n ≤ cap ∧ cap ≤ maxLen)) (hcl : Hid ((f.code.length + 1) * 1024 ≤ 140737488355328)) (hrl : Hid ((f.rows.length + 2) * 40 ≤ 140737488355328)) :
    Calls Try.prog 14 #[fuL fa fb f.ret fd fe] w fun e w' => ∃ (F : FuI) (a b d c : Value), e = .returned (fuL a b F.ret d c) ∧ FuV Tru w' F a b d c ∧ IsTrim f F ∧ Below w.heap.size w w' := by
  obtain ⟨FA, ac, hFA⟩ := h.out.a.shape
  subst hFA
  obtain ⟨FB, bc, hFB⟩ := h.out.b.shape
  subst hFB
  obtain ⟨D, dcap, hD⟩ := h.out.d.shape
  subst hD
  obtain ⟨E, ecap, hE⟩ := h.out.e.shape
  subst hE
  obtain ⟨n, hn⟩ : ∃ n, f.code.length = n := ⟨_, rfl⟩
  have HN := lhid hn
  have hcl2 := hcl.out
  have hf2 := h.out
  rw [hn] at hcl2 hf2 ⊢
  have HFU := lhid hf2
  clear hn hf2 h
  obtain ⟨c, hc⟩ : ∃ c, chkN f = c := ⟨_, rfl⟩
  have HC := lhid hc
  obtain ⟨B0, hB0⟩ : ∃ B, B = w.heap.size := ⟨_, rfl⟩
  go_enter Try.func14, Try.ntmps14
  go_wp2_with fail
  generalize hW : World.alloc _ _ = w0
  have hB : Below B0 w w0 := by rw [← hW, hB0]; exact ((Below.refl w.heap.size w).alloc (Nat.le_refl _) _).alloc (by simp) _
  have hF : FBox w0 B0 (.slice FA f.regs.length ac) (.slice FB f.params.length bc) f.ret (.slice D n dcap) (.slice E f.rows.length ecap) := by rw [← hW, hB0]; exact (Below.heap_alloc _ _ _ (by simp)).trans (heap_alloc_new w _)
  have hZ : ZBox w0 (B0 + 1) := by rw [← hW, hB0]; exact heap_new2 w _ _
  have hs0 : w0.heap.size = B0 + 2 := by rw [← hW, hB0]; simp
  rw [← hB0]
  have HB0 := lhid hB0
  have HS0 := lhid hs0
  have HW0 := lhid hB
  have HF0 := lhid hF
  have HZ0 := lhid hZ
  have HU0 := lhid (HFU.out.below (by rw [← hB0]; exact hB))
  clear hB hF hZ hW hs0 hB0
  with_reducible refine (rcheck_r f _ _ _ _ c w0 HU0 hq hcap HC).mono ?_
  rintro e w1 ⟨rfl, hb⟩
  have HF1 : Hid (FBox w1 B0 (.slice FA f.regs.length ac) (.slice FB f.params.length bc) f.ret (.slice D n dcap) (.slice E f.rows.length ecap)) := lhid (heap_keep HF0.out hb)
  have HZ1 : Hid (ZBox w1 (B0 + 1)) := lhid (heap_keep HZ0.out hb)
  have HB1 : Hid (Below B0 w w1) := lhid (HW0.out.trans (hb.mono (by have := HS0.out; omega)))
  have HS1 : Hid (B0 + 2 ≤ w1.heap.size) := lhid (by have h1 := hb.size; have h2 := HS0.out; omega)
  have HU1 := lhid (HFU.out.below (by rw [← HB0.out]; exact HB1.out))
  obtain ⟨p0, p1, p2, p3, p4⟩ := HF1.out.cells
  clear hb HF0 HZ0 HW0 HS0 HU0
  by_cases hc0 : c = 0
  · have hcb : (c != 0) = false := by rw [hc0]; rfl
    have HC0 : Hid (chkN f = 0) := lhid (hc.trans hc0)
    clear hc hc0
    go_wp2_with fail
    with_reducible refine (rreach_n f n HN.out _ _ _ _ w1 HU1 hcl (lhid (by have := hrl.out; omega))).mono ?_
    rintro e w2 ⟨gR, R, rfl, hgR, hR, hIR, hb⟩
    have HF2 : Hid (FBox w2 B0 (.slice FA f.regs.length ac) (.slice FB f.params.length bc) f.ret (.slice D n dcap) (.slice E f.rows.length ecap)) := lhid (heap_keep HF1.out hb)
    have HZ2 : Hid (ZBox w2 (B0 + 1)) := lhid (heap_keep HZ1.out hb)
    have HB2 : Hid (Below B0 w w2) := lhid (HB1.out.trans (hb.mono (by have := HS1.out; omega)))
    have HS2 : Hid (B0 + 2 ≤ gR ∧ B0 + 2 ≤ w2.heap.size) := lhid (by
      have h1 := HS1.out
      have h2 := hb.size
      exact ⟨by omega, by omega⟩)
    have HR := lhid hR
    have HIR := lhid hIR
    clear hb hgR hR hIR HF1 HZ1 HB1 HS1 HU1 p0 p1 p2 p3 p4
    obtain ⟨i0, hi0, hz0, hz1, hz2⟩ := info_parts info_nuP
    go_wp2_with fail
    go_loopg [4, 5, 6] n (fun g pl nn i wr => ∃ (T : List Int) (A : Option Addr) (q k : Nat) (z : Int), g = n - k ∧ pl = .slice A T.length q ∧ nn = .int .i64 z ∧ i = .int .i64 k ∧ k ≤ n ∧ Hid (T = (List.range k).map (nowN f.code R)) ∧ Hid (z = nowN f.code R k) ∧ Hid (OwN wr w2.heap.size (.slice A T.length q) T) ∧ Hid (Below w2.heap.size w2 wr))
    case atStart => exact ⟨[], none, 0, 0, 0, rfl, rfl, rfl, rfl, Nat.zero_le _, lhid (by simp), lhid rfl, lhid (World.ownsRow_nil _ _ _ _), lhid (Below.refl _ _)⟩
    case round =>
      obtain ⟨T, A, q, k, z, rfl, rfl, rfl, rfl, hk, HT, HZ, HO, HB⟩ := hrel
      obtain ⟨p0, p1, p2, p3, p4⟩ := FBox.cells (heap_keep HF2.out HB.out)
      by_cases hlt : k < n
      · have k3 : (k : Int) < n := by omega
        have hwk : wrap64 ((k : Int) + 1) = (k : Int) + 1 := IntWalk.wrap64_in _ (by omega)
        have hzk : 0 ≤ z ∧ z ≤ k := by rw [HZ.out]; exact now_at f.code R k
        have hwz : wrap64 (z + 1) = z + 1 := IntWalk.wrap64_in _ (by omega)
        have hTl : T.length ≤ k := by rw [HT.out]; simp
        have hbs := HB.out.size
        obtain ⟨x, hx⟩ : ∃ x, f.code[k]? = some x := ⟨_, List.getElem?_eq_getElem (by have := HN.out; omega)⟩
        have hRl : R.length = n := by rw [HIR.out.1]; exact HN.out
        obtain ⟨bb, hbb⟩ : ∃ b, R[k]? = some b := ⟨_, List.getElem?_eq_getElem (by omega)⟩
        have HX := lhid hx
        have HBB := lhid hbb
        have hT2 : T ++ [z] = (List.range (k + 1)).map (nowN f.code R) := by rw [HT.out, HZ.out, List.range_succ, List.map_append]; rfl
        have HT2 := lhid hT2
        clear hx hbb hRl hT2
        go_wp2_with (at_builtin; refine wpList_append_own _ rfl (.tmp 25) (.tmp 27) 22 rfl w2.heap.size 3 i0 (.int .i64 0) 1 8 Try.underlying22 hi0 hz0 hz1 hz2 rfl (by decide) (.slice A T.length q) T.length (T.map vI) rfl (HO.out.alloc _) ⟨wr.heap.size, 0, none⟩ 1 1 [vI z] rfl rfl ?c1 ?c2 ?c3 ?c4 ?c5 ?_)
        case c1 => exact new_cells _ _ _
        case c2 => (intro u hu; simp at hu; subst hu; rfl)
        case c3 => (unfold maxLen; omega)
        case c4 => omega
        case c5 => (simp; omega)
        intro v' w' hown hgrow hnil
        obtain ⟨A', q', rfl⟩ := own_shape hown
        have HO4 : Hid (OwN w' w2.heap.size (.slice A' (T ++ [z]).length q') (T ++ [z])) := lhid (by simpa [OwN] using hown)
        have HB4 := lhid (Below.grown (HB.out.alloc HB.out.size _) hgrow (by simp; omega) (fun r e => own_lt HO.out r e))
        obtain ⟨U, hU⟩ : ∃ U, T ++ [z] = U := ⟨_, rfl⟩
        have hUl : T.length + 1 = U.length := by rw [← hU]; simp
        rw [hU] at HO4 HT2
        clear hown hgrow hnil hU p0 p1 p2 p3 p4
        obtain ⟨p0, p1, p2, p3, p4⟩ := FBox.cells (heap_keep HF2.out HB4.out)
        have c9 := bl_cell (HR.out.below (keptX_bl _) HB4.out) HBB.out
        cases bb with
        | false =>
          have HZ2 : Hid (z = nowN f.code R (k + 1)) := lhid (by show z = if stayB f.code R k then _ else _; rw [show stayB f.code R k = false by unfold stayB; rw [HX.out, HBB.out]; rfl]; exact HZ.out)
          go_wp2_with fail
          go_roundg (n - (k + 1))
          case measure => omega
          case rel => exact ⟨U, A', q', k + 1, z, rfl, by rw [hUl], rfl, by go_num, by omega, HT2, HZ2, HO4, HB4⟩
        | true =>
          obtain ⟨g, o, v, hD, _, hv, c0, c1, c2, c3, c4, c5, c6, c7, c8⟩ := in_cells (HFU.out.d) HX.out
          subst hD
          replace c0 := ((HB2.out.trans (HB4.out.mono (by have := HS2.out; omega))).cell (by have := cell_lt c0; have := HB0.out; omega)).trans c0
          clear c1 c2 c3 c4 c5 c6 c7 c8 hv
          by_cases ho : x.op = 33
          · have HZ2 : Hid (z = nowN f.code R (k + 1)) := lhid (by show z = if stayB f.code R k then _ else _; rw [show stayB f.code R k = false by unfold stayB; rw [HX.out, HBB.out]; simp [ho]]; exact HZ.out)
            rw [ho] at c0
            clear ho
            go_wp2_with fail
            go_roundg (n - (k + 1))
            case measure => omega
            case rel => exact ⟨U, A', q', k + 1, z, rfl, by rw [hUl], rfl, by go_num, by omega, HT2, HZ2, HO4, HB4⟩
          · have HZ2 : Hid (z + 1 = nowN f.code R (k + 1)) := lhid (by show z + 1 = if stayB f.code R k then _ else _; rw [show stayB f.code R k = true by unfold stayB; rw [HX.out, HBB.out]; simp [ho]]; rw [HZ.out]; rfl)
            have hon : (x.op != 33) = true := by simpa using ho
            clear ho
            go_wp2_with fail
            go_roundg (n - (k + 1))
            case measure => omega
            case rel => exact ⟨U, A', q', k + 1, z + 1, rfl, by rw [hUl], by go_num, by go_num, by omega, HT2, HZ2, HO4, HB4⟩
      · have k3 : ¬ (k : Int) < n := by omega
        have hke : k = n := by omega
        subst hke
        have hzk : 0 ≤ z ∧ z ≤ k := by rw [HZ.out]; exact now_at f.code R k
        have hTl : T.length ≤ k := by rw [HT.out]; simp
        have hbs := HB.out.size
        have hT2 : T ++ [z] = (List.range (k + 1)).map (nowN f.code R) := by rw [HT.out, HZ.out, List.range_succ, List.map_append]; rfl
        have HT2 := lhid hT2
        clear hT2
        go_wp2_with (at_builtin; refine wpList_append_own _ rfl (.tmp 44) (.tmp 46) 22 rfl w2.heap.size 3 i0 (.int .i64 0) 1 8 Try.underlying22 hi0 hz0 hz1 hz2 rfl (by decide) (.slice A T.length q) T.length (T.map vI) rfl (HO.out.alloc _) ⟨wr.heap.size, 0, none⟩ 1 1 [vI z] rfl rfl ?c1 ?c2 ?c3 ?c4 ?c5 ?_)
        try case c1 => exact new_cells _ _ _
        case c2 => first | rfl | (intro u hu; simp at hu; subst hu; rfl)
        case c3 => (unfold maxLen; omega)
        case c4 => omega
        case c5 => first | omega | (simp; omega) | simp
        intro v' w' hown hgrow hnil
        obtain ⟨A', q', rfl⟩ := own_shape hown
        have HO4 : Hid (OwN w' w2.heap.size (.slice A' (T ++ [z]).length q') (T ++ [z])) := lhid (by simpa [OwN] using hown)
        have HB4 := lhid (Below.grown (HB.out.alloc HB.out.size _) hgrow (by simp; omega) (fun r e => own_lt HO.out r e))
        obtain ⟨U, hU⟩ : ∃ U, T ++ [z] = U := ⟨_, rfl⟩
        have hUl : T.length + 1 = U.length := by rw [← hU]; simp
        rw [hU] at HO4 HT2
        rw [hUl]
        clear hown hgrow hnil hU p0 p1 p2 p3 p4 HO HB HT hzk hTl hbs hUl k3 hlt hk HZ
        obtain ⟨p0, p1, p2, p3, p4⟩ := FBox.cells (heap_keep HF2.out HB4.out)
        go_wp2_with fail
        generalize hW : World.alloc _ _ = w4
        obtain ⟨G, hG⟩ : ∃ G, G = w'.heap.size := ⟨_, rfl⟩
        have hb4 : Below w'.heap.size w' w4 := by rw [← hW]; exact (Below.refl _ _).alloc (Nat.le_refl _) _
        have hG4 : FBox w4 G (.slice FA f.regs.length ac) (.slice FB f.params.length bc) f.ret (.slice none 0 0) (.slice none 0 0) := by rw [← hW, hG]; exact heap_alloc_new w' _
        have hsz : w4.heap.size = G + 1 := by rw [← hW, hG]; simp
        rw [← hG]
        have hul : U.length = k + 1 := by rw [HT2.out]; simp
        have hub : U ≠ [] := fun e => by rw [e] at hul; simp at hul
        obtain ⟨pg, hpg⟩ : ∃ pg, A' = some ⟨pg, 0, none⟩ := by
          rcases HO4.out.2 with ⟨_, h2⟩ | ⟨g, cap, cur, h1, _⟩
          · omega
          · injection h1 with h1
            exact ⟨g, h1⟩
        subst hpg
        have hpl := HO4.out.lt pg rfl
        have HNUM : Hid (B0 + 2 ≤ pg ∧ pg < G ∧ w2.heap.size ≤ G ∧ w4.heap.size = G + 1 ∧ B0 + 2 ≤ w2.heap.size) := lhid (by have := HS2.out; have := HB4.out.size; omega)
        have HB24 : Hid (Below w2.heap.size w2 w4) := lhid (HB4.out.trans (hb4.mono HB4.out.size))
        have HNOW : Hid (∀ j : Nat, j < k + 1 → w4.cell? ⟨pg, j, none⟩ = some (.int .i64 (nowN f.code R j))) := lhid (fun j hj => by
          rw [(own_below HO4.out hb4).cellAt j (by simp; omega), HT2.out]
          simp [hj, vI])
        have HG4 := lhid hG4
        have HUL := lhid hul
        clear hb4 hG4 hsz hul hub hpl hW hG p0 p1 p2 p3 p4 HO4 HB4 hz0 hz1 hz2 hi0
        obtain ⟨i0, hi0, hz0, hz1, hz2⟩ := info_parts info_in
        go_loopg [8] k (fun g i wr => ∃ (L : List InI) (A : Option Addr) (q m : Nat), g = k - m ∧ i = .int .i64 m ∧ m ≤ k ∧ Hid (L = trT f.code (nowN f.code R) m) ∧ Hid (OwC P w wr (G + 1) (.slice A L.length q) L) ∧ Hid (FBox wr G (.slice FA f.regs.length ac) (.slice FB f.params.length bc) f.ret (.slice A L.length q) (.slice none 0 0)) ∧ Hid (Ch (fun b => b = G) w4 wr))
        case atStart => exact ⟨[], none, 0, 0, rfl, rfl, Nat.zero_le _, lhid (by simp [trT]), lhid ⟨[], World.ownsRow_nil _ _ _ _, rowsE_nil _ _⟩, HG4, lhid (Ch.refl _ _)⟩
        case round =>
          obtain ⟨L, A, q, m, rfl, rfl, hm, HL, HO, HGr, HCH⟩ := hrel
          have hbw : Below w2.heap.size w2 wr := HB24.out.trans (HCH.out.to (by have := HNUM.out; omega) (fun b hb => by have := HNUM.out; omega))
          have hBw0 : Below B0 w wr := HB2.out.trans (hbw.mono (by have := HS2.out; omega))
          obtain ⟨p0, p1, p2, p3, p4⟩ := FBox.cells (heap_keep HF2.out hbw)
          have HBW := lhid hbw
          have HBW0 := lhid hBw0
          by_cases hlt : m < k
          · have k3 : (m : Int) < k := by omega
            have hwk : wrap64 ((m : Int) + 1) = (m : Int) + 1 := IntWalk.wrap64_in _ (by omega)
            obtain ⟨x, hx⟩ : ∃ x, f.code[m]? = some x := ⟨_, List.getElem?_eq_getElem (by have := HN.out; omega)⟩
            have hRl : R.length = k := by rw [HIR.out.1]; exact HN.out
            obtain ⟨bb, hbb⟩ : ∃ b, R[m]? = some b := ⟨_, List.getElem?_eq_getElem (by omega)⟩
            have c9 := bl_cell (HR.out.below (keptX_bl _) hbw) hbb
            obtain ⟨gc, o, v, hD, _, hva, c0, c1, c2, c3, c4, c5, c6, c7, c8⟩ := in_cells HFU.out.d hx
            subst hD
            obtain ⟨VA, vc, hv0⟩ := hva.shape
            subst hv0
            have kc : ∀ {p : Addr} {u : Value}, w.cell? p = some u → wr.cell? p = some u := fun {p u} hq => (hBw0.cell (p := p) (by have := cell_lt hq; have := HB0.out; omega)).trans hq
            replace c0 := kc c0
            replace c1 := kc c1
            replace c2 := kc c2
            replace c3 := kc c3
            replace c4 := kc c4
            replace c5 := kc c5
            replace c6 := kc c6
            replace c7 := kc c7
            replace c8 := kc c8
            have hgw : gc < wr.heap.size := cell_lt c0
            have hrw : gR < wr.heap.size := cell_lt c9
            have HX := lhid hx
            have HBB := lhid hbb
            have HVA := lhid hva
            have HLE := lhid (trT_len f.code (nowN f.code R) m)
            clear hx hbb hva kc hRl hbw hBw0
            cases bb with
            | false =>
              have HL2 : Hid (L = trT f.code (nowN f.code R) (m + 1)) := lhid (by rw [trT_skip HX.out (by unfold stayB; rw [HX.out, HBB.out]; rfl)]; exact HL.out)
              go_wp2_with fail
              go_roundg (k - (m + 1))
              case measure => omega
              case rel => exact ⟨L, A, q, m + 1, rfl, by go_num, by omega, HL2, lhid (HO.out.below ((Below.refl _ _).alloc (Nat.le_refl _) _)), lhid ((Below.heap_alloc _ _ _ (heap_lt HGr.out)).trans HGr.out), lhid (HCH.out.alloc _)⟩

            | true =>
              by_cases ho : x.op = 33
              · have hoe : (x.op == 33) = true := by simpa using ho
                clear ho
                have HL2 : Hid (L = trT f.code (nowN f.code R) (m + 1)) := lhid (by rw [trT_skip HX.out (by unfold stayB; rw [HX.out, HBB.out]; simp [hoe])]; exact HL.out)
                go_wp2_with fail
                go_roundg (k - (m + 1))
                case measure => omega
                case rel => exact ⟨L, A, q, m + 1, rfl, by go_num, by omega, HL2, lhid (HO.out.below ((Below.refl _ _).alloc (Nat.le_refl _) _)), lhid ((Below.heap_alloc _ _ _ (heap_lt HGr.out)).trans HGr.out), lhid (HCH.out.alloc _)⟩

              · have hoe : (x.op == 33) = false := by simpa using ho
                have HL2 : Hid (L ++ [trX (nowN f.code R) x] = trT f.code (nowN f.code R) (m + 1)) := lhid (by rw [trT_keep HX.out (by unfold stayB; rw [HX.out, HBB.out]; simp [ho]), HL.out])
                clear ho
                go_upto_region 19 with fail
                generalize hwd : World.alloc _ _ = wd
                obtain ⟨xb, hxb⟩ : ∃ xb, xb = wr.heap.size := ⟨_, rfl⟩
                rw [← hxb]
                have hbd : Below wr.heap.size wr wd := by rw [← hwd]; exact (Below.refl _ _).alloc (Nat.le_refl _) _
                have XBD : Hid (XBox wd xb x.op x.dst x.a x.b x.c x.num x.too x.ref (.slice VA x.args.length vc)) := lhid (by rw [← hwd, hxb]; exact heap_alloc_new wr _)
                have HOD := lhid (HO.out.below hbd)
                have HGD : Hid (FBox wd G (.slice FA f.regs.length ac) (.slice FB f.params.length bc) f.ret (.slice A L.length q) (.slice none 0 0)) := lhid (heap_keep HGr.out hbd)
                have HCD := lhid (HCH.out.below hbd)
                have HXB : Hid (G + 1 ≤ xb) := lhid (by have := HCH.out.size; have := HNUM.out; omega)
                have HOL : Hid (∀ b, (Value.slice A L.length q).ownBlock = some b → b < xb) := lhid (by obtain ⟨xs, h1, h2⟩ := HO.out; rw [hxb]; exact fun b hb => (h1.lt b hb).2)
                have nGx : ¬ G = xb := by have := HXB.out; omega
                have nxG : ¬ xb = G := by omega
                clear hwd hxb c0 c1 c2 c3 c4 c5 c6 c7 c8 c9 hbd p0 p1 p2 p3 p4 hgw hrw
                obtain ⟨x0, x1, x2, x3, x4, x5, x6, x7, x8⟩ := XBD.out.cells
                cases hz : leadsB x.op with
                | true =>
                  have HZ := lhid hz
                  clear hz
                  go_wp2_with fail
                  with_reducible refine (rleads_r x.op true _ HZ).mono ?_
                  rintro e w5 ⟨rfl, hb5⟩
                  have XB5 : Hid (XBox w5 xb x.op x.dst x.a x.b x.c x.num x.too x.ref (.slice VA x.args.length vc)) := lhid (heap_keep XBD.out hb5)
                  have HO5 := lhid (HOD.out.below hb5)
                  have HG5 : Hid (FBox w5 G (.slice FA f.regs.length ac) (.slice FB f.params.length bc) f.ret (.slice A L.length q) (.slice none 0 0)) := lhid (heap_keep HGD.out hb5)
                  have HC5 := lhid (HCD.out.below hb5)
                  clear x0 x1 x2 x3 x4 x5 x6 x7 x8
                  obtain ⟨x0, x1, x2, x3, x4, x5, x6, x7, x8⟩ := XB5.out.cells
                  obtain ⟨g0, g1, g2, g3, g4⟩ := FBox.cells HG5.out
                  have xt := heap_thaw XB5.out 6
                  have xl := heap_lt XB5.out
                  obtain ⟨j, hj⟩ : ∃ j : Nat, x.too = j := ⟨x.too.toNat, by have := chk_leads HC0.out x (List.mem_of_getElem? HX.out) HZ.out; omega⟩
                  have hjn : j < k := by have := chk_leads HC0.out x (List.mem_of_getElem? HX.out) HZ.out; have := HN.out; omega
                  have hjk : (j : Int) < U.length := by have := HUL.out; omega
                  have d2 : w5.cell? ⟨pg, j, none⟩ = some (.int .i64 (nowN f.code R j)) := (cell_heap (HC5.out.block pg (by have := HNUM.out; omega) (by have := HNUM.out; omega)) _).trans (HNOW.out j (by omega))
                  obtain ⟨t2, ht2⟩ : ∃ t, nowN f.code R j = t := ⟨_, rfl⟩
                  rw [ht2] at d2
                  rw [hj] at x6
                  have HTX : Hid ((trX (nowN f.code R) x).too = t2) := lhid (by show (if leadsB x.op then nowN f.code R x.too.toNat else 0) = t2; rw [HZ.out, hj]; exact ht2)
                  have npx : ¬ pg = xb := by have := HNUM.out; have := HXB.out; omega
                  have npx2 : ¬ xb = pg := by omega
                  clear ht2 hj
                  obtain ⟨xs, HXS⟩ : ∃ xs, Hid (w5.ownsRow (G + 1) 37 9 (.slice A L.length q) L.length xs ∧ RowsE 9 (InE P w) L xs) := by obtain ⟨xs, h1, h2⟩ := HO5.out; exact ⟨xs, lhid ⟨h1, h2⟩⟩
                  have HOS : Hid ((w5.setCell ⟨xb, 6, none⟩ (.int .i64 t2)).ownsRow (G + 1) 37 9 (.slice A L.length q) L.length xs) := lhid (own_of HXS.out.1 fun b hb => Below.heap_setCell _ _ _ _ (by have := HOL.out b hb; show b ≠ xb; omega))
                  have HCS : Hid (Ch (fun b => b = G) w4 (w5.setCell ⟨xb, 6, none⟩ (.int .i64 t2))) := lhid (HC5.out.set (p := ⟨xb, 6, none⟩) (fun h => by have := HXB.out; have := HNUM.out; have h1 : xb < w4.heap.size := h; omega) _)
                  have HGS : Hid (FBox (w5.setCell ⟨xb, 6, none⟩ (.int .i64 t2)) G (.slice FA f.regs.length ac) (.slice FB f.params.length bc) f.ret (.slice A L.length q) (.slice none 0 0)) := lhid ((Below.heap_setCell _ _ _ _ (show G ≠ xb by omega)).trans HG5.out)
                  have hle := HLE.out
                  rw [← HL.out] at hle
                  have hs5 := HC5.out.size
                  go_wp2_with (at_builtin; refine wpList_append_own _ rfl (.tmp 88) (.tmp 90) 23 rfl (G + 1) 37 i0 (.agg #[.int .i64 0, .int .i64 0, .int .i64 0, .int .i64 0, .int .i64 0, .int .i64 0, .int .i64 0, .string ⟨#[]⟩, .slice none 0 0]) 9 96 Try.underlying23 hi0 hz0 hz1 hz2 rfl (by decide) (.slice A L.length q) L.length xs rfl (HOS.out.alloc _) ⟨w5.heap.size, 0, none⟩ 1 1 [.int .i64 x.op, .int .i64 x.dst, .int .i64 x.a, .int .i64 x.b, .int .i64 x.c, .int .i64 x.num, .int .i64 t2, .string (tx x.ref), .slice VA x.args.length vc] rfl rfl ?d1 ?d2 ?d3 ?d4 ?d5 ?_)
                  case d1 =>
                    have h9 := new_cells (w5.setCell ⟨xb, 6, none⟩ (.int .i64 t2)) [.int .i64 x.op, .int .i64 x.dst, .int .i64 x.a, .int .i64 x.b, .int .i64 x.c, .int .i64 x.num, .int .i64 t2, .string (tx x.ref), .slice VA x.args.length vc] 37
                    rw [show (w5.setCell ⟨xb, 6, none⟩ (.int .i64 t2)).heap.size = w5.heap.size by simp [World.setCell]] at h9
                    exact h9
                  case d2 =>
                    intro u hu
                    simp only [List.mem_cons, List.not_mem_nil, or_false] at hu
                    rcases hu with rfl | rfl | rfl | rfl | rfl | rfl | rfl | rfl | rfl <;> rfl
                  case d3 => (unfold maxLen; omega)
                  case d4 => omega
                  case d5 => (have h5 := HNUM.out; simp; omega)
                  intro v' w' hown hgrow hnil
                  obtain ⟨A2, q2, rfl⟩ := own_shape hown
                  have HOF : Hid (OwC P w w' (G + 1) (.slice A2 (L ++ [trX (nowN f.code R) x]).length q2) (L ++ [trX (nowN f.code R) x])) := lhid ⟨_, by rw [List.length_append]; exact hown, HXS.out.2.app (rowsE_one (a := trX (nowN f.code R) x) ⟨_, by rw [HTX.out]; rfl, HVA.out⟩ rfl)⟩
                  have hCF : Ch (fun b => b = G) w4 w' := Ch.grown (HCS.out.alloc _) hgrow (fun r e hlt => by have := own_lt HXS.out.1 r e; have := HNUM.out; omega)
                  have hGF : FBox w' G (.slice FA f.regs.length ac) (.slice FB f.params.length bc) f.ret (.slice A L.length q) (.slice none 0 0) := (hgrow.block G (by have := heap_lt HGS.out; simp; simp [World.setCell] at this; omega) (fun e => by have := own_lt HXS.out.1 G e.symm; omega)).trans ((Below.heap_alloc _ _ _ (heap_lt HGS.out)).trans HGS.out)
                  obtain ⟨UL, hU⟩ : ∃ UL, L ++ [trX (nowN f.code R) x] = UL := ⟨_, rfl⟩
                  have hUl : L.length + 1 = UL.length := by rw [← hU]; simp
                  rw [hU] at HOF HL2
                  rw [hUl]
                  clear hown hgrow hnil hU hUl hle x0 x1 x2 x3 x4 x5 x6 x7 x8 g0 g1 g2 g3 g4 xt xl hs5 d2 npx npx2
                  obtain ⟨g0, g1, g2, g3, g4⟩ := FBox.cells hGF
                  have gz := heap_thaw hGF
                  have gl := heap_lt hGF
                  have HGF := lhid hGF
                  have HCF := lhid hCF
                  clear hGF hCF
                  go_wp2_with fail
                  go_roundg (k - (m + 1))
                  case measure => omega
                  case rel => exact ⟨UL, A2, q2, m + 1, rfl, by go_num, by omega, HL2, lhid (HOF.out.setG (by omega)), lhid (xset2 HGF.out 3 _ rfl), lhid (Ch.set (X := fun b => b = G) (p := ⟨G, 3, none⟩) HCF.out (fun _ => rfl) _)⟩

                | false =>
                  have HZ := lhid hz
                  clear hz
                  go_wp2_with fail
                  with_reducible refine (rleads_r x.op false _ HZ).mono ?_
                  rintro e w5 ⟨rfl, hb5⟩
                  have XB5 : Hid (XBox w5 xb x.op x.dst x.a x.b x.c x.num x.too x.ref (.slice VA x.args.length vc)) := lhid (heap_keep XBD.out hb5)
                  have HO5 := lhid (HOD.out.below hb5)
                  have HG5 : Hid (FBox w5 G (.slice FA f.regs.length ac) (.slice FB f.params.length bc) f.ret (.slice A L.length q) (.slice none 0 0)) := lhid (heap_keep HGD.out hb5)
                  have HC5 := lhid (HCD.out.below hb5)
                  clear x0 x1 x2 x3 x4 x5 x6 x7 x8
                  obtain ⟨x0, x1, x2, x3, x4, x5, x6, x7, x8⟩ := XB5.out.cells
                  obtain ⟨g0, g1, g2, g3, g4⟩ := FBox.cells HG5.out
                  have xt := heap_thaw XB5.out 6
                  have xl := heap_lt XB5.out
                  have HTX : Hid ((trX (nowN f.code R) x).too = 0) := lhid (by show (if leadsB x.op then nowN f.code R x.too.toNat else 0) = 0; rw [HZ.out]; rfl)
                  obtain ⟨xs, HXS⟩ : ∃ xs, Hid (w5.ownsRow (G + 1) 37 9 (.slice A L.length q) L.length xs ∧ RowsE 9 (InE P w) L xs) := by obtain ⟨xs, h1, h2⟩ := HO5.out; exact ⟨xs, lhid ⟨h1, h2⟩⟩
                  have HOS : Hid ((w5.setCell ⟨xb, 6, none⟩ (.int .i64 0)).ownsRow (G + 1) 37 9 (.slice A L.length q) L.length xs) := lhid (own_of HXS.out.1 fun b hb => Below.heap_setCell _ _ _ _ (by have := HOL.out b hb; show b ≠ xb; omega))
                  have HCS : Hid (Ch (fun b => b = G) w4 (w5.setCell ⟨xb, 6, none⟩ (.int .i64 0))) := lhid (HC5.out.set (p := ⟨xb, 6, none⟩) (fun h => by have := HXB.out; have := HNUM.out; have h1 : xb < w4.heap.size := h; omega) _)
                  have HGS : Hid (FBox (w5.setCell ⟨xb, 6, none⟩ (.int .i64 0)) G (.slice FA f.regs.length ac) (.slice FB f.params.length bc) f.ret (.slice A L.length q) (.slice none 0 0)) := lhid ((Below.heap_setCell _ _ _ _ (show G ≠ xb by omega)).trans HG5.out)
                  have hle := HLE.out
                  rw [← HL.out] at hle
                  have hs5 := HC5.out.size
                  go_wp2_with (at_builtin; refine wpList_append_own _ rfl (.tmp 88) (.tmp 90) 23 rfl (G + 1) 37 i0 (.agg #[.int .i64 0, .int .i64 0, .int .i64 0, .int .i64 0, .int .i64 0, .int .i64 0, .int .i64 0, .string ⟨#[]⟩, .slice none 0 0]) 9 96 Try.underlying23 hi0 hz0 hz1 hz2 rfl (by decide) (.slice A L.length q) L.length xs rfl (HOS.out.alloc _) ⟨w5.heap.size, 0, none⟩ 1 1 [.int .i64 x.op, .int .i64 x.dst, .int .i64 x.a, .int .i64 x.b, .int .i64 x.c, .int .i64 x.num, .int .i64 0, .string (tx x.ref), .slice VA x.args.length vc] rfl rfl ?e1 ?e2 ?e3 ?e4 ?e5 ?_)
                  case e1 =>
                    have h9 := new_cells (w5.setCell ⟨xb, 6, none⟩ (.int .i64 0)) [.int .i64 x.op, .int .i64 x.dst, .int .i64 x.a, .int .i64 x.b, .int .i64 x.c, .int .i64 x.num, .int .i64 0, .string (tx x.ref), .slice VA x.args.length vc] 37
                    rw [show (w5.setCell ⟨xb, 6, none⟩ (.int .i64 0)).heap.size = w5.heap.size by simp [World.setCell]] at h9
                    exact h9
                  case e2 =>
                    intro u hu
                    simp only [List.mem_cons, List.not_mem_nil, or_false] at hu
                    rcases hu with rfl | rfl | rfl | rfl | rfl | rfl | rfl | rfl | rfl <;> rfl
                  case e3 => (unfold maxLen; omega)
                  case e4 => omega
                  case e5 => (have h5 := HNUM.out; simp; omega)
                  intro v' w' hown hgrow hnil
                  obtain ⟨A2, q2, rfl⟩ := own_shape hown
                  have HOF : Hid (OwC P w w' (G + 1) (.slice A2 (L ++ [trX (nowN f.code R) x]).length q2) (L ++ [trX (nowN f.code R) x])) := lhid ⟨_, by rw [List.length_append]; exact hown, HXS.out.2.app (rowsE_one (a := trX (nowN f.code R) x) ⟨_, by rw [HTX.out]; rfl, HVA.out⟩ rfl)⟩
                  have hCF : Ch (fun b => b = G) w4 w' := Ch.grown (HCS.out.alloc _) hgrow (fun r e hlt => by have := own_lt HXS.out.1 r e; have := HNUM.out; omega)
                  have hGF : FBox w' G (.slice FA f.regs.length ac) (.slice FB f.params.length bc) f.ret (.slice A L.length q) (.slice none 0 0) := (hgrow.block G (by have := heap_lt HGS.out; simp; simp [World.setCell] at this; omega) (fun e => by have := own_lt HXS.out.1 G e.symm; omega)).trans ((Below.heap_alloc _ _ _ (heap_lt HGS.out)).trans HGS.out)
                  obtain ⟨UL, hU⟩ : ∃ UL, L ++ [trX (nowN f.code R) x] = UL := ⟨_, rfl⟩
                  have hUl : L.length + 1 = UL.length := by rw [← hU]; simp
                  rw [hU] at HOF HL2
                  rw [hUl]
                  clear hown hgrow hnil hU hUl hle x0 x1 x2 x3 x4 x5 x6 x7 x8 g0 g1 g2 g3 g4 xt xl hs5
                  obtain ⟨g0, g1, g2, g3, g4⟩ := FBox.cells hGF
                  have gz := heap_thaw hGF
                  have gl := heap_lt hGF
                  have HGF := lhid hGF
                  have HCF := lhid hCF
                  clear hGF hCF
                  go_wp2_with fail
                  go_roundg (k - (m + 1))
                  case measure => omega
                  case rel => exact ⟨UL, A2, q2, m + 1, rfl, by go_num, by omega, HL2, lhid (HOF.out.setG (by omega)), lhid (xset2 HGF.out 3 _ rfl), lhid (Ch.set (X := fun b => b = G) (p := ⟨G, 3, none⟩) HCF.out (fun _ => rfl) _)⟩

          · have k3 : ¬ (m : Int) < k := by omega
            have hke : m = k := by omega
            subst hke
            clear k3 hlt
            obtain ⟨w5, hq5⟩ : ∃ x, x = wr := ⟨_, rfl⟩
            subst hq5
            obtain ⟨i0r, hi0r, hz0r, hz1r, hz2r⟩ := info_parts info_rw
            have HS5 : Hid (G + 1 ≤ w5.heap.size) := lhid (by have := HCH.out.size; have := HNUM.out; omega)
            clear hi0 hz0 hz1 hz2
            go_wp2_with fail
            go_loopg [10] f.rows.length (fun g i wq => ∃ (T : List RwI) (A3 : Option Addr) (q3 m2 : Nat), g = f.rows.length - m2 ∧ i = .int .i64 m2 ∧ m2 ≤ f.rows.length ∧ Hid (T = trR f.rows R (nowN f.code R) m2) ∧ Hid (OwR w wq w5.heap.size (.slice A3 T.length q3) T) ∧ Hid (FBox wq G (.slice FA f.regs.length ac) (.slice FB f.params.length bc) f.ret (.slice A L.length q) (.slice A3 T.length q3)) ∧ Hid (Ch (fun b => b = G) w5 wq))
            case atStart => exact ⟨[], none, 0, 0, rfl, rfl, Nat.zero_le _, lhid (by simp [trR]), lhid ⟨[], World.ownsRow_nil _ _ _ _, rowsE_nil _ _⟩, HGr, lhid (Ch.refl _ _)⟩
            case round =>
              obtain ⟨T, A3, q3, m2, rfl, rfl, hm2, HT, HOR, HGQ, HCQ⟩ := hrel
              have hbw : Below w2.heap.size w2 wr := HBW.out.trans (HCQ.out.to (by have := HBW.out.size; omega) (fun b hb => by have := HNUM.out; omega))
              have hBw0 : Below B0 w wr := HB2.out.trans (hbw.mono (by have := HS2.out; omega))
              clear p0 p1 p2 p3 p4
              obtain ⟨p0, p1, p2, p3, p4⟩ := FBox.cells (heap_keep HF2.out hbw)
              by_cases hlt : m2 < f.rows.length
              · have hel := HFU.out.e.len
                have k3 : (m2 : Int) < f.rows.length := by omega
                have hwk : wrap64 ((m2 : Int) + 1) = (m2 : Int) + 1 := IntWalk.wrap64_in _ (by omega)
                obtain ⟨r, hx⟩ : ∃ r, f.rows[m2]? = some r := ⟨_, List.getElem?_eq_getElem hlt⟩
                obtain ⟨ge, oe, hD, c0, c1, c2, c3⟩ := rw_cells HFU.out.e hx
                subst hD
                obtain ⟨⟨h1, h2⟩, ⟨h3, h4⟩, h5, h6⟩ := chk_rows9 HC0.out r (List.mem_of_getElem? hx)
                rw [HN.out] at h2 h4 h6
                obtain ⟨jf, hjf⟩ : ∃ j : Nat, r.fr = j := ⟨r.fr.toNat, by omega⟩
                obtain ⟨jt, hjt⟩ : ∃ j : Nat, r.too = j := ⟨r.too.toNat, by omega⟩
                obtain ⟨ja, hja⟩ : ∃ j : Nat, r.at_ = j := ⟨r.at_.toNat, by omega⟩
                obtain ⟨bb, hbb⟩ : ∃ b, R[ja]? = some b := ⟨_, List.getElem?_eq_getElem (by have := HIR.out.1; have := HN.out; omega)⟩
                have e0 := bl_cell (HR.out.below (keptX_bl _) hbw) hbb
                rw [hjf] at c0 h2
                rw [hjt] at c1 h4
                rw [hja] at c2 h6
                have kc : ∀ {p : Addr} {u : Value}, w.cell? p = some u → wr.cell? p = some u := fun {p u} hq => (hBw0.cell (p := p) (by have := cell_lt hq; have := HB0.out; omega)).trans hq
                replace c0 := kc c0
                replace c1 := kc c1
                replace c2 := kc c2
                replace c3 := kc c3
                have kn : ∀ j : Nat, j < m + 1 → wr.cell? ⟨pg, j, none⟩ = some (.int .i64 (nowN f.code R j)) := fun j hj => ((cell_heap ((HCQ.out.block pg (by have := HNUM.out; have := HS5.out; omega) (by have := HNUM.out; omega)).trans (HCH.out.block pg (by have := HNUM.out; omega) (by have := HNUM.out; omega))) _)).trans (HNOW.out j hj)
                have d0 := kn jf (by omega)
                have d1 := kn jt (by omega)
                have d2 := kn ja (by omega)
                obtain ⟨tf, htf⟩ : ∃ t, nowN f.code R jf = t := ⟨_, rfl⟩
                obtain ⟨tt, htt⟩ : ∃ t, nowN f.code R jt = t := ⟨_, rfl⟩
                obtain ⟨ta, hta⟩ : ∃ t, nowN f.code R ja = t := ⟨_, rfl⟩
                rw [htf] at d0
                rw [htt] at d1
                rw [hta] at d2
                have hgl : ge < wr.heap.size := cell_lt c0
                have hng : pg < wr.heap.size := cell_lt d0
                have hrg : gR < wr.heap.size := cell_lt e0
                have HX := lhid hx
                have HLE := lhid (trR_len f.rows R (nowN f.code R) m2)
                have b1 : (jf : Int) < U.length := by have := HUL.out; omega
                have b2 : (jt : Int) < U.length := by have := HUL.out; omega
                have b3 : (ja : Int) < U.length := by have := HUL.out; omega
                have b4 : (ja : Int) < m := by omega
                have HRK : Hid (rowK R (nowN f.code R) r = (decide (tf < tt) && bb)) := lhid (by unfold rowK; rw [hjf, hjt, hja]; simp [htf, htt, hbb])
                have HRN : Hid (rowN (nowN f.code R) r = ⟨tf, tt, ta, r.cls⟩) := lhid (by unfold rowN; rw [hjf, hjt, hja]; simp [htf, htt, hta])
                clear hx kc kn hbb htf htt hta hjf hjt hja h1 h2 h3 h4 h5 h6 hbw hBw0
                cases bb with
                | false =>
                  go_upto_region 27 with fail
                  go_quiet (fail)
                  generalize hwd : World.drewN _ _ = wd
                  have hbd : Below wr.heap.size wr wd := by rw [← hwd]; exact Below.drewN' ((Below.refl _ _).alloc (Nat.le_refl _) _) _
                  have HRB : Hid (wd.heap[wr.heap.size]? = some (.cells #[.int .i64 jf, .int .i64 jt, .int .i64 ja, .string (tx r.cls)] 54 (0, 0))) := lhid (by rw [← hwd]; exact heap_alloc_new wr _)
                  have HOD : Hid (OwR w wd w5.heap.size (.slice A3 T.length q3) T) := lhid (by obtain ⟨xs, h1, h2⟩ := HOR.out; exact ⟨xs, own_below h1 hbd, h2⟩)
                  have HGD : Hid (FBox wd G (.slice FA f.regs.length ac) (.slice FB f.params.length bc) f.ret (.slice A L.length q) (.slice A3 T.length q3)) := lhid (heap_keep HGQ.out hbd)
                  have HCD := lhid (HCQ.out.below hbd)
                  replace d0 := (hbd.cell (cell_lt d0)).trans d0
                  replace d1 := (hbd.cell (cell_lt d1)).trans d1
                  replace d2 := (hbd.cell (cell_lt d2)).trans d2
                  replace e0 := (hbd.cell (cell_lt e0)).trans e0
                  clear hwd c0 c1 c2 c3 hbd p0 p1 p2 p3 p4 hgl hng hrg

                  have HT2 : Hid (T = trR f.rows R (nowN f.code R) (m2 + 1)) := lhid (by rw [trR_no HX.out (by rw [HRK.out]; simp)]; exact HT.out)
                  go_wp2_with fail
                  go_roundg (f.rows.length - (m2 + 1))
                  case measure => omega
                  case rel => exact ⟨T, A3, q3, m2 + 1, rfl, by go_num, by omega, HT2, HOD, HGD, HCD⟩

                | true =>
                  by_cases hs : tf < tt
                  · go_upto_region 27 with fail
                    go_quiet (fail)
                    generalize hwd : World.drewN _ _ = wd
                    have hbd : Below wr.heap.size wr wd := by rw [← hwd]; exact Below.drewN' ((Below.refl _ _).alloc (Nat.le_refl _) _) _
                    have HRB : Hid (wd.heap[wr.heap.size]? = some (.cells #[.int .i64 jf, .int .i64 jt, .int .i64 ja, .string (tx r.cls)] 54 (0, 0))) := lhid (by rw [← hwd]; exact heap_alloc_new wr _)
                    have HOD : Hid (OwR w wd w5.heap.size (.slice A3 T.length q3) T) := lhid (by obtain ⟨xs, h1, h2⟩ := HOR.out; exact ⟨xs, own_below h1 hbd, h2⟩)
                    have HGD : Hid (FBox wd G (.slice FA f.regs.length ac) (.slice FB f.params.length bc) f.ret (.slice A L.length q) (.slice A3 T.length q3)) := lhid (heap_keep HGQ.out hbd)
                    have HCD := lhid (HCQ.out.below hbd)
                    replace d0 := (hbd.cell (cell_lt d0)).trans d0
                    replace d1 := (hbd.cell (cell_lt d1)).trans d1
                    replace d2 := (hbd.cell (cell_lt d2)).trans d2
                    replace e0 := (hbd.cell (cell_lt e0)).trans e0
                    clear hwd c0 c1 c2 c3 hbd p0 p1 p2 p3 p4 hgl hng hrg

                    have HT2 : Hid (T ++ [rowN (nowN f.code R) r] = trR f.rows R (nowN f.code R) (m2 + 1)) := lhid (by rw [trR_yes HX.out (by rw [HRK.out]; simp [hs]), HT.out])
                    obtain ⟨rb, hrb⟩ : ∃ rb, rb = wr.heap.size := ⟨_, rfl⟩
                    rw [← hrb] at HRB ⊢
                    have hr5 := HCQ.out.size
                    have HRBG : Hid (G < rb ∧ pg < G) := lhid (by have := HNUM.out; have := HS5.out; omega)
                    have HRBX0 : Hid (rb = wr.heap.size) := lhid hrb
                    go_upto_region 28 with fail
                    obtain ⟨wz, hwz⟩ : ∃ wz, wz = wd.drew := ⟨_, rfl⟩
                    have hbz : Below wd.heap.size wd wz := by rw [hwz]; exact Below.drew' (Below.refl _ _)
                    have hrbl := heap_lt HRB.out
                    have hpgl : pg < wd.heap.size := cell_lt d0
                    have HCELL : Hid (∀ w' : World, (w'.heap[rb]? = wz.heap[rb]? ∧ w'.heap[pg]? = wz.heap[pg]?) → w'.cell? ⟨rb, 0, none⟩ = some (.int .i64 jf) ∧ w'.cell? ⟨rb, 1, none⟩ = some (.int .i64 jt) ∧ w'.cell? ⟨rb, 2, none⟩ = some (.int .i64 ja) ∧ w'.cell? ⟨rb, 3, none⟩ = some (.string (tx r.cls)) ∧ w'.cell? ⟨pg, jf, none⟩ = some (.int .i64 tf) ∧ w'.cell? ⟨pg, jt, none⟩ = some (.int .i64 tt) ∧ w'.cell? ⟨pg, ja, none⟩ = some (.int .i64 ta)) := lhid (fun w' hw' => by
                      have k1 := hw'.1.trans (hbz.block rb hrbl)
                      have k2 := hw'.2.trans (hbz.block pg hpgl)
                      have k3 := k1.trans HRB.out
                      exact ⟨heap_cell k3 rfl, heap_cell k3 rfl, heap_cell k3 rfl, heap_cell k3 rfl, (cell_heap k2 _).trans d0, (cell_heap k2 _).trans d1, (cell_heap k2 _).trans d2⟩)
                    obtain ⟨xs, HXS⟩ : ∃ xs, Hid (wz.ownsRow w5.heap.size 54 4 (.slice A3 T.length q3) T.length xs ∧ RowsE 4 (RwE w) T xs) := by obtain ⟨xs, h1, h2⟩ := HOD.out; exact ⟨xs, lhid ⟨own_below h1 hbz, h2⟩⟩
                    have HGZ : Hid (FBox wz G (.slice FA f.regs.length ac) (.slice FB f.params.length bc) f.ret (.slice A L.length q) (.slice A3 T.length q3)) := lhid (heap_keep HGD.out hbz)
                    have HWa : Hid ((wz.alloc (.cells #[.int .i64 tf, .int .i64 tt, .int .i64 ta, .string (tx r.cls)] 54)).ownsRow w5.heap.size 54 4 (.slice A3 T.length q3) T.length xs) := lhid (HXS.out.1.alloc (.cells #[.int .i64 tf, .int .i64 tt, .int .i64 ta, .string (tx r.cls)] 54))
                    have HNa : Hid ((wz.alloc (.cells #[.int .i64 tf, .int .i64 tt, .int .i64 ta, .string (tx r.cls)] 54)).heap[wz.heap.size]? = some (.cells #[.int .i64 tf, .int .i64 tt, .int .i64 ta, .string (tx r.cls)] 54 (0, 0))) := lhid (heap_alloc_new wz _)
                    have HGa : Hid (FBox (wz.alloc (.cells #[.int .i64 tf, .int .i64 tt, .int .i64 ta, .string (tx r.cls)] 54)) G (.slice FA f.regs.length ac) (.slice FB f.params.length bc) f.ret (.slice A L.length q) (.slice A3 T.length q3)) := lhid ((Below.heap_alloc _ _ _ (heap_lt HGZ.out)).trans HGZ.out)
                    have HCa : Hid (Ch (fun b => b = G) w5 (wz.alloc (.cells #[.int .i64 tf, .int .i64 tt, .int .i64 ta, .string (tx r.cls)] 54))) := lhid ((HCD.out.below hbz).alloc (.cells #[.int .i64 tf, .int .i64 tt, .int .i64 ta, .string (tx r.cls)] 54))
                    have HRBL : Hid (rb < wz.heap.size ∧ pg < wz.heap.size) := lhid (by have := hbz.size; omega)
                    have HRBX : Hid ((Value.slice A3 T.length q3).ownBlock ≠ some rb ∧ (Value.slice A3 T.length q3).ownBlock ≠ some pg) := lhid ⟨fun e => by obtain ⟨xs, h1, h2⟩ := HOR.out; have := (h1.lt rb e).2; have := HRBX0.out; omega, fun e => by have := own_lt HXS.out.1 pg e; have := HNUM.out; have := HS5.out; omega⟩
                    have H1C : Hid (∀ u ∈ ([.int .i64 tf, .int .i64 tt, .int .i64 ta, .string (tx r.cls)] : List Value), u.oneCell' = true) := lhid (by intro u hu; simp at hu; rcases hu with rfl | rfl | rfl | rfl <;> simp [Value.oneCell'])
                    have hle := HLE.out
                    rw [← HT.out] at hle
                    have h63 : T.length + 1 ≤ maxLen := by unfold maxLen; omega
                    have hby : (T.length + 1) * 40 ≤ 140737488355328 := by have := hrl.out; omega
                    have g4z := heap_cell (i := 4) HGZ.out rfl
                    have g4a := heap_cell (i := 4) HGa.out rfl
                    have hSa : (wz.alloc (.cells #[.int .i64 tf, .int .i64 tt, .int .i64 ta, .string (tx r.cls)] 54)).heap[rb]? = wz.heap[rb]? ∧ (wz.alloc (.cells #[.int .i64 tf, .int .i64 tt, .int .i64 ta, .string (tx r.cls)] 54)).heap[pg]? = wz.heap[pg]? := ⟨Below.heap_alloc _ _ _ HRBL.out.1, Below.heap_alloc _ _ _ HRBL.out.2⟩
                    refine wp_region_held_drew (S := fun w' => w'.heap[rb]? = wz.heap[rb]? ∧ w'.heap[pg]? = wz.heap[pg]?) (by kernel_rfl) (by rw [hwz]; exact ⟨rfl, rfl⟩) ?_
                    intro hS0
                    rw [← hwz] at hS0 ⊢
                    clear hwz hbz d0 d1 d2 e0 hrb hr5
                    refine wpAnyH_take (i := 0) (v := ?tv0) rfl (by kernel_rfl) (by kernel_rfl) (by kernel_rfl) (fun _ _ _ h => h) (Or.inl ⟨by rfl, ?ty0⟩) hS0 ?tr0
                    case ty0 => (intro w' hw'; obtain ⟨r0, r1, r2, r3, d0, d1, d2⟩ := HCELL.out w' hw'; go_simp; try with_reducible rfl)
                    try simp only [List.getElem_toArray, List.getElem_cons_zero, List.getElem_cons_succ]
                    try simp only [Act.put, List.setIfInBounds_toArray, List.set_cons_zero, List.set_cons_succ]
                    refine wpAnyH_take (i := 2) (v := ?tv2) rfl (by kernel_rfl) (by kernel_rfl) (by kernel_rfl) (fun _ _ _ h => h) (Or.inl ⟨by rfl, ?ty2⟩) hS0 ?tr2
                    case ty2 => (intro w' hw'; obtain ⟨r0, r1, r2, r3, d0, d1, d2⟩ := HCELL.out w' hw'; go_simp; try with_reducible rfl)
                    try simp only [List.getElem_toArray, List.getElem_cons_zero, List.getElem_cons_succ]
                    try simp only [Act.put, List.setIfInBounds_toArray, List.set_cons_zero, List.set_cons_succ]
                    refine wpAnyH_take (i := 3) (v := ?tv3) rfl (by kernel_rfl) (by kernel_rfl) (by kernel_rfl) (fun _ _ _ h => h) (Or.inl ⟨by rfl, ?ty3⟩) hS0 ?tr3
                    case ty3 => (intro w' hw'; obtain ⟨r0, r1, r2, r3, d0, d1, d2⟩ := HCELL.out w' hw'; go_simp; try with_reducible rfl)
                    try simp only [List.getElem_toArray, List.getElem_cons_zero, List.getElem_cons_succ]
                    try simp only [Act.put, List.setIfInBounds_toArray, List.set_cons_zero, List.set_cons_succ]
                    refine wpAnyH_take (i := 4) (v := ?tv4) rfl (by kernel_rfl) (by kernel_rfl) (by kernel_rfl) (fun _ _ _ h => h) (Or.inl ⟨by rfl, ?ty4⟩) hS0 ?tr4
                    case ty4 => (intro w' hw'; obtain ⟨r0, r1, r2, r3, d0, d1, d2⟩ := HCELL.out w' hw'; go_simp; try with_reducible rfl)
                    try simp only [List.getElem_toArray, List.getElem_cons_zero, List.getElem_cons_succ]
                    try simp only [Act.put, List.setIfInBounds_toArray, List.set_cons_zero, List.set_cons_succ]
                    refine wpAnyH_take (i := 5) (v := ?tv5) rfl (by kernel_rfl) (by kernel_rfl) (by kernel_rfl) (fun _ _ _ h => h) (Or.inl ⟨by rfl, ?ty5⟩) hS0 ?tr5
                    case ty5 => (intro w' hw'; obtain ⟨r0, r1, r2, r3, d0, d1, d2⟩ := HCELL.out w' hw'; go_simp; try with_reducible rfl)
                    try simp only [List.getElem_toArray, List.getElem_cons_zero, List.getElem_cons_succ]
                    try simp only [Act.put, List.setIfInBounds_toArray, List.set_cons_zero, List.set_cons_succ]
                    refine wpAnyH_take (i := 6) (v := ?tv6) rfl (by kernel_rfl) (by kernel_rfl) (by kernel_rfl) (fun _ _ _ h => h) (Or.inl ⟨by rfl, ?ty6⟩) hS0 ?tr6
                    case ty6 => (intro w' hw'; obtain ⟨r0, r1, r2, r3, d0, d1, d2⟩ := HCELL.out w' hw'; go_simp; try with_reducible rfl)
                    try simp only [List.getElem_toArray, List.getElem_cons_zero, List.getElem_cons_succ]
                    try simp only [Act.put, List.setIfInBounds_toArray, List.set_cons_zero, List.set_cons_succ]
                    refine wpAnyH_take (i := 7) (v := ?tv7) rfl (by kernel_rfl) (by kernel_rfl) (by kernel_rfl) (fun _ _ _ h => h) (Or.inl ⟨by rfl, ?ty7⟩) hS0 ?tr7
                    case ty7 => (intro w' hw'; obtain ⟨r0, r1, r2, r3, d0, d1, d2⟩ := HCELL.out w' hw'; go_simp; try with_reducible rfl)
                    try simp only [List.getElem_toArray, List.getElem_cons_zero, List.getElem_cons_succ]
                    try simp only [Act.put, List.setIfInBounds_toArray, List.set_cons_zero, List.set_cons_succ]
                    refine wpAnyH_take (i := 8) (v := ?tv8) rfl (by kernel_rfl) (by kernel_rfl) (by kernel_rfl) (fun _ _ _ h => h) (Or.inl ⟨by rfl, ?ty8⟩) hS0 ?tr8
                    case ty8 => (intro w' hw'; obtain ⟨r0, r1, r2, r3, d0, d1, d2⟩ := HCELL.out w' hw'; go_simp; try with_reducible rfl)
                    try simp only [List.getElem_toArray, List.getElem_cons_zero, List.getElem_cons_succ]
                    try simp only [Act.put, List.setIfInBounds_toArray, List.set_cons_zero, List.set_cons_succ]
                    refine wpAnyH_take (i := 9) (v := ?tv9) rfl (by kernel_rfl) (by kernel_rfl) (by kernel_rfl) (fun _ _ _ h => h) (Or.inl ⟨by rfl, ?ty9⟩) hS0 ?tr9
                    case ty9 => (intro w' hw'; obtain ⟨r0, r1, r2, r3, d0, d1, d2⟩ := HCELL.out w' hw'; go_simp; try with_reducible rfl)
                    try simp only [List.getElem_toArray, List.getElem_cons_zero, List.getElem_cons_succ]
                    try simp only [Act.put, List.setIfInBounds_toArray, List.set_cons_zero, List.set_cons_succ]
                    refine wpAnyH_take (i := 10) (v := ?tv10) rfl (by kernel_rfl) (by kernel_rfl) (by kernel_rfl) (fun _ _ _ h => h) (Or.inl ⟨by rfl, ?ty10⟩) hS0 ?tr10
                    case ty10 => (intro w' hw'; obtain ⟨r0, r1, r2, r3, d0, d1, d2⟩ := HCELL.out w' hw'; go_simp; try with_reducible rfl)
                    try simp only [List.getElem_toArray, List.getElem_cons_zero, List.getElem_cons_succ]
                    try simp only [Act.put, List.setIfInBounds_toArray, List.set_cons_zero, List.set_cons_succ]
                    refine wpAnyH_take (i := 11) (v := ?tv11) rfl (by kernel_rfl) (by kernel_rfl) (by kernel_rfl) (fun _ _ _ h => h) (Or.inl ⟨by rfl, ?ty11⟩) hS0 ?tr11
                    case ty11 => (intro w' hw'; obtain ⟨r0, r1, r2, r3, d0, d1, d2⟩ := HCELL.out w' hw'; go_simp; try with_reducible rfl)
                    try simp only [List.getElem_toArray, List.getElem_cons_zero, List.getElem_cons_succ]
                    try simp only [Act.put, List.setIfInBounds_toArray, List.set_cons_zero, List.set_cons_succ]
                    refine wpAnyH_take (i := 12) (v := ?tv12) rfl (by kernel_rfl) (by kernel_rfl) (by kernel_rfl) (fun _ _ _ h => h) (Or.inl ⟨by rfl, ?ty12⟩) hS0 ?tr12
                    case ty12 => (intro w' hw'; obtain ⟨r0, r1, r2, r3, d0, d1, d2⟩ := HCELL.out w' hw'; go_simp; try with_reducible rfl)
                    try simp only [List.getElem_toArray, List.getElem_cons_zero, List.getElem_cons_succ]
                    try simp only [Act.put, List.setIfInBounds_toArray, List.set_cons_zero, List.set_cons_succ]
                    refine wpAnyH_take (i := 13) (v := ?tv13) rfl (by kernel_rfl) (by kernel_rfl) (by kernel_rfl) (fun _ _ _ h => h) (Or.inl ⟨by rfl, ?ty13⟩) hS0 ?tr13
                    case ty13 => (intro w' hw'; obtain ⟨r0, r1, r2, r3, d0, d1, d2⟩ := HCELL.out w' hw'; go_simp; try with_reducible rfl)
                    try simp only [List.getElem_toArray, List.getElem_cons_zero, List.getElem_cons_succ]
                    try simp only [Act.put, List.setIfInBounds_toArray, List.set_cons_zero, List.set_cons_succ]
                    refine wpAnyH_take (i := 14) (v := ?tv14) rfl (by kernel_rfl) (by kernel_rfl) (by kernel_rfl) (fun _ _ _ h => h) (Or.inl ⟨by rfl, ?ty14⟩) hS0 ?tr14
                    case ty14 => (intro w' hw'; obtain ⟨r0, r1, r2, r3, d0, d1, d2⟩ := HCELL.out w' hw'; go_simp; try with_reducible rfl)
                    try simp only [List.getElem_toArray, List.getElem_cons_zero, List.getElem_cons_succ]
                    try simp only [Act.put, List.setIfInBounds_toArray, List.set_cons_zero, List.set_cons_succ]
                    refine wpAnyH_take (i := 15) (v := ?tv15) rfl (by kernel_rfl) (by kernel_rfl) (by kernel_rfl) (fun _ _ _ h => h) (Or.inl ⟨by rfl, ?ty15⟩) hS0 ?tr15
                    case ty15 => (intro w' hw'; obtain ⟨r0, r1, r2, r3, d0, d1, d2⟩ := HCELL.out w' hw'; go_simp; try with_reducible rfl)
                    try simp only [List.getElem_toArray, List.getElem_cons_zero, List.getElem_cons_succ]
                    try simp only [Act.put, List.setIfInBounds_toArray, List.set_cons_zero, List.set_cons_succ]
                    refine wpAnyH_take (i := 16) (v := ?tv16) rfl (by kernel_rfl) (by kernel_rfl) (by kernel_rfl) (fun _ _ _ h => h) (Or.inl ⟨by rfl, ?ty16⟩) hS0 ?tr16
                    case ty16 => (intro w' hw'; obtain ⟨r0, r1, r2, r3, d0, d1, d2⟩ := HCELL.out w' hw'; go_simp; try with_reducible rfl)
                    try simp only [List.getElem_toArray, List.getElem_cons_zero, List.getElem_cons_succ]
                    try simp only [Act.put, List.setIfInBounds_toArray, List.set_cons_zero, List.set_cons_succ]
                    refine wpAnyH_take (i := 17) (v := ?tv17) rfl (by kernel_rfl) (by kernel_rfl) (by kernel_rfl) (fun _ _ _ h => h) (Or.inl ⟨by rfl, ?ty17⟩) hS0 ?tr17
                    case ty17 => (intro w' hw'; obtain ⟨r0, r1, r2, r3, d0, d1, d2⟩ := HCELL.out w' hw'; go_simp; try with_reducible rfl)
                    try simp only [List.getElem_toArray, List.getElem_cons_zero, List.getElem_cons_succ]
                    try simp only [Act.put, List.setIfInBounds_toArray, List.set_cons_zero, List.set_cons_succ]
                    refine wpAnyH_take (i := 18) (v := ?tv18) rfl (by kernel_rfl) (by kernel_rfl) (by kernel_rfl) (fun _ _ _ h => h) (Or.inl ⟨by rfl, ?ty18⟩) hS0 ?tr18
                    case ty18 => (intro w' hw'; obtain ⟨r0, r1, r2, r3, d0, d1, d2⟩ := HCELL.out w' hw'; go_simp; try with_reducible rfl)
                    try simp only [List.getElem_toArray, List.getElem_cons_zero, List.getElem_cons_succ]
                    try simp only [Act.put, List.setIfInBounds_toArray, List.set_cons_zero, List.set_cons_succ]
                    refine wpAnyH_take (i := 19) (v := ?tv19) rfl (by kernel_rfl) (by kernel_rfl) (by kernel_rfl) (fun _ _ _ h => h) (Or.inl ⟨by rfl, ?ty19⟩) hS0 ?tr19
                    case ty19 => (intro w' hw'; obtain ⟨r0, r1, r2, r3, d0, d1, d2⟩ := HCELL.out w' hw'; go_simp; try with_reducible rfl)
                    try simp only [List.getElem_toArray, List.getElem_cons_zero, List.getElem_cons_succ]
                    try simp only [Act.put, List.setIfInBounds_toArray, List.set_cons_zero, List.set_cons_succ]
                    refine wpAnyH_ready (rs := [1, 20]) (by kernel_rfl) (by simp) ?_
                    refine AllReadyH.cons rfl (fun K hK => ?_) (AllReadyH.cons rfl (fun K hK => ?_) AllReadyH.nil)
                    · have g4 := g4z
                      go_simp
                      clear g4
                      refine hK.out _ _ hS0 (fun _ => ?_)
                      clear hK K
                      try simp only [Act.put, List.setIfInBounds_toArray, List.set_cons_zero, List.set_cons_succ]
                      refine wpAnyH_ready (rs := [20]) (by kernel_rfl) (by simp) ?_
                      refine AllReadyH.cons rfl (fun K hK => ?_) AllReadyH.nil
                      go_simp
                      have hS1 := hSa
                      refine hK.out _ _ hS1 (fun _ => ?_)
                      clear hK K
                      try simp only [Act.put, List.setIfInBounds_toArray, List.set_cons_zero, List.set_cons_succ]
                      refine wpAnyH_ready (rs := [21]) (by kernel_rfl) (by simp) ?_
                      refine AllReadyH.cons rfl (fun K hK => ?_) AllReadyH.nil
                      refine step_append_lies _ rfl (.tmp 124) (.tmp 143) 24 rfl w5.heap.size 54 i0r (.agg #[.int .i64 0, .int .i64 0, .int .i64 0, .string ⟨#[]⟩]) 4 40 Try.underlying24 hi0r hz0r hz1r hz2r rfl (by decide) (.slice A3 T.length q3) T.length xs rfl HWa.out _ 1 _ [.int .i64 tf, .int .i64 tt, .int .i64 ta, .string (tx r.cls)] rfl rfl (World.news_of_block HNa.out) H1C.out (by decide) h63 hby HCa.out.size _ rfl ?_
                      intro g' cap w6 hown hgrow hat hlt6
                      have hG6 : w6.heap[G]? = some (.cells #[(.slice FA f.regs.length ac), (.slice FB f.params.length bc), .int .i64 f.ret, .slice A L.length q, .slice A3 T.length q3] 26 (0, 0)) := (hgrow.block G (heap_lt HGa.out) (fun e => by have := own_lt HXS.out.1 G e.symm; have := HS5.out; omega)).trans HGa.out
                      have hS6 : w6.heap[rb]? = wz.heap[rb]? ∧ w6.heap[pg]? = wz.heap[pg]? := ⟨(hgrow.block rb (by have := HRBL.out; simp; omega) (fun e => HRBX.out.1 e.symm)).trans (Below.heap_alloc _ _ _ HRBL.out.1), (hgrow.block pg (by have := HRBL.out; simp; omega) (fun e => HRBX.out.2 e.symm)).trans (Below.heap_alloc _ _ _ HRBL.out.2)⟩
                      have q6 := heap_cell (i := 4) hG6 rfl
                      have z6 := heap_thaw hG6 4
                      refine hK.out _ _ hS6 (fun _ => ?_)
                      clear hK K
                      try simp only [Act.put, List.setIfInBounds_toArray, List.set_cons_zero, List.set_cons_succ]
                      refine wpAnyH_take (i := 22) (v := ?tv122) rfl (by kernel_rfl) (by kernel_rfl) (by kernel_rfl) (fun _ _ _ h => h) (Or.inl ⟨by rfl, ?ty122⟩) hS6 ?tr122
                      case ty122 => (intro w' hw'; obtain ⟨r0, r1, r2, r3, d0, d1, d2⟩ := HCELL.out w' hw'; go_simp; try with_reducible rfl)
                      try simp only [List.getElem_toArray, List.getElem_cons_zero, List.getElem_cons_succ]
                      try simp only [Act.put, List.setIfInBounds_toArray, List.set_cons_zero, List.set_cons_succ]
                      refine wpAnyH_ready (rs := [23]) (by kernel_rfl) (by simp) ?_
                      refine AllReadyH.cons rfl (fun K hK => ?_) AllReadyH.nil
                      go_simp
                      have hS7 : (w6.setCell ⟨G, 4, none⟩ (.slice (some ⟨g', 0, none⟩) (T.length + 1) cap)).heap[rb]? = wz.heap[rb]? ∧ (w6.setCell ⟨G, 4, none⟩ (.slice (some ⟨g', 0, none⟩) (T.length + 1) cap)).heap[pg]? = wz.heap[pg]? := ⟨(Below.heap_setCell _ _ _ _ (by have := HRBG.out; show rb ≠ G; omega)).trans hS6.1, (Below.heap_setCell _ _ _ _ (by have := HRBG.out; show pg ≠ G; omega)).trans hS6.2⟩
                      refine hK.out _ _ hS7 (fun _ => ?_)
                      clear hK K
                      try simp only [Act.put, List.setIfInBounds_toArray, List.set_cons_zero, List.set_cons_succ]
                      refine wpAnyH_done (by kernel_rfl) ?_ _
                      have HO3 : Hid (OwR w (w6.setCell ⟨G, 4, none⟩ (.slice (some ⟨g', 0, none⟩) (T.length + 1) cap)) w5.heap.size (.slice (some ⟨g', 0, none⟩) (T ++ [rowN (nowN f.code R) r]).length cap) (T ++ [rowN (nowN f.code R) r])) := lhid ⟨_, by rw [List.length_append]; exact own_of hown fun b hb => Below.heap_setCell _ _ _ _ (by have := own_lt hown b hb; have := HS5.out; show b ≠ G; omega), HXS.out.2.app (rowsE_one (a := rowN (nowN f.code R) r) (by rw [HRN.out]; rfl) rfl)⟩
                      have HG3 : Hid (FBox (w6.setCell ⟨G, 4, none⟩ (.slice (some ⟨g', 0, none⟩) (T.length + 1) cap)) G (.slice FA f.regs.length ac) (.slice FB f.params.length bc) f.ret (.slice A L.length q) (.slice (some ⟨g', 0, none⟩) (T ++ [rowN (nowN f.code R) r]).length cap)) := lhid (by rw [List.length_append]; exact xset2 hG6 4 _ rfl)
                      have HC3 : Hid (Ch (fun b => b = G) w5 (w6.setCell ⟨G, 4, none⟩ (.slice (some ⟨g', 0, none⟩) (T.length + 1) cap))) := lhid (Ch.set (X := fun b => b = G) (p := ⟨G, 4, none⟩) (Ch.grown HCa.out hgrow (fun r e hlt => by have := own_lt HXS.out.1 r e; omega)) (fun _ => rfl) _)
                      clear hown hgrow hat hlt6 hG6 q6 z6 hS6 hS7 g4z g4a hSa hS1 hS0 hle
                      go_wp2
                      go_roundg (f.rows.length - (m2 + 1))
                      case measure => omega
                      case rel => exact ⟨T ++ [rowN (nowN f.code R) r], some ⟨g', 0, none⟩, cap, m2 + 1, rfl, by go_num, by omega, HT2, HO3, HG3, HC3⟩
                    · go_simp
                      have hS1 := hSa
                      refine hK.out _ _ hS1 (fun _ => ?_)
                      clear hK K
                      try simp only [Act.put, List.setIfInBounds_toArray, List.set_cons_zero, List.set_cons_succ]
                      refine wpAnyH_ready (rs := [1]) (by kernel_rfl) (by simp) ?_
                      refine AllReadyH.cons rfl (fun K hK => ?_) AllReadyH.nil
                      have g4 := g4a
                      go_simp
                      clear g4
                      refine hK.out _ _ hS1 (fun _ => ?_)
                      clear hK K
                      try simp only [Act.put, List.setIfInBounds_toArray, List.set_cons_zero, List.set_cons_succ]
                      refine wpAnyH_ready (rs := [21]) (by kernel_rfl) (by simp) ?_
                      refine AllReadyH.cons rfl (fun K hK => ?_) AllReadyH.nil
                      refine step_append_lies _ rfl (.tmp 124) (.tmp 143) 24 rfl w5.heap.size 54 i0r (.agg #[.int .i64 0, .int .i64 0, .int .i64 0, .string ⟨#[]⟩]) 4 40 Try.underlying24 hi0r hz0r hz1r hz2r rfl (by decide) (.slice A3 T.length q3) T.length xs rfl HWa.out _ 1 _ [.int .i64 tf, .int .i64 tt, .int .i64 ta, .string (tx r.cls)] rfl rfl (World.news_of_block HNa.out) H1C.out (by decide) h63 hby HCa.out.size _ rfl ?_
                      intro g' cap w6 hown hgrow hat hlt6
                      have hG6 : w6.heap[G]? = some (.cells #[(.slice FA f.regs.length ac), (.slice FB f.params.length bc), .int .i64 f.ret, .slice A L.length q, .slice A3 T.length q3] 26 (0, 0)) := (hgrow.block G (heap_lt HGa.out) (fun e => by have := own_lt HXS.out.1 G e.symm; have := HS5.out; omega)).trans HGa.out
                      have hS6 : w6.heap[rb]? = wz.heap[rb]? ∧ w6.heap[pg]? = wz.heap[pg]? := ⟨(hgrow.block rb (by have := HRBL.out; simp; omega) (fun e => HRBX.out.1 e.symm)).trans (Below.heap_alloc _ _ _ HRBL.out.1), (hgrow.block pg (by have := HRBL.out; simp; omega) (fun e => HRBX.out.2 e.symm)).trans (Below.heap_alloc _ _ _ HRBL.out.2)⟩
                      have q6 := heap_cell (i := 4) hG6 rfl
                      have z6 := heap_thaw hG6 4
                      refine hK.out _ _ hS6 (fun _ => ?_)
                      clear hK K
                      try simp only [Act.put, List.setIfInBounds_toArray, List.set_cons_zero, List.set_cons_succ]
                      refine wpAnyH_take (i := 22) (v := ?tv222) rfl (by kernel_rfl) (by kernel_rfl) (by kernel_rfl) (fun _ _ _ h => h) (Or.inl ⟨by rfl, ?ty222⟩) hS6 ?tr222
                      case ty222 => (intro w' hw'; obtain ⟨r0, r1, r2, r3, d0, d1, d2⟩ := HCELL.out w' hw'; go_simp; try with_reducible rfl)
                      try simp only [List.getElem_toArray, List.getElem_cons_zero, List.getElem_cons_succ]
                      try simp only [Act.put, List.setIfInBounds_toArray, List.set_cons_zero, List.set_cons_succ]
                      refine wpAnyH_ready (rs := [23]) (by kernel_rfl) (by simp) ?_
                      refine AllReadyH.cons rfl (fun K hK => ?_) AllReadyH.nil
                      go_simp
                      have hS7 : (w6.setCell ⟨G, 4, none⟩ (.slice (some ⟨g', 0, none⟩) (T.length + 1) cap)).heap[rb]? = wz.heap[rb]? ∧ (w6.setCell ⟨G, 4, none⟩ (.slice (some ⟨g', 0, none⟩) (T.length + 1) cap)).heap[pg]? = wz.heap[pg]? := ⟨(Below.heap_setCell _ _ _ _ (by have := HRBG.out; show rb ≠ G; omega)).trans hS6.1, (Below.heap_setCell _ _ _ _ (by have := HRBG.out; show pg ≠ G; omega)).trans hS6.2⟩
                      refine hK.out _ _ hS7 (fun _ => ?_)
                      clear hK K
                      try simp only [Act.put, List.setIfInBounds_toArray, List.set_cons_zero, List.set_cons_succ]
                      refine wpAnyH_done (by kernel_rfl) ?_ _
                      have HO3 : Hid (OwR w (w6.setCell ⟨G, 4, none⟩ (.slice (some ⟨g', 0, none⟩) (T.length + 1) cap)) w5.heap.size (.slice (some ⟨g', 0, none⟩) (T ++ [rowN (nowN f.code R) r]).length cap) (T ++ [rowN (nowN f.code R) r])) := lhid ⟨_, by rw [List.length_append]; exact own_of hown fun b hb => Below.heap_setCell _ _ _ _ (by have := own_lt hown b hb; have := HS5.out; show b ≠ G; omega), HXS.out.2.app (rowsE_one (a := rowN (nowN f.code R) r) (by rw [HRN.out]; rfl) rfl)⟩
                      have HG3 : Hid (FBox (w6.setCell ⟨G, 4, none⟩ (.slice (some ⟨g', 0, none⟩) (T.length + 1) cap)) G (.slice FA f.regs.length ac) (.slice FB f.params.length bc) f.ret (.slice A L.length q) (.slice (some ⟨g', 0, none⟩) (T ++ [rowN (nowN f.code R) r]).length cap)) := lhid (by rw [List.length_append]; exact xset2 hG6 4 _ rfl)
                      have HC3 : Hid (Ch (fun b => b = G) w5 (w6.setCell ⟨G, 4, none⟩ (.slice (some ⟨g', 0, none⟩) (T.length + 1) cap))) := lhid (Ch.set (X := fun b => b = G) (p := ⟨G, 4, none⟩) (Ch.grown HCa.out hgrow (fun r e hlt => by have := own_lt HXS.out.1 r e; omega)) (fun _ => rfl) _)
                      clear hown hgrow hat hlt6 hG6 q6 z6 hS6 hS7 g4z g4a hSa hS1 hS0 hle
                      go_wp2
                      go_roundg (f.rows.length - (m2 + 1))
                      case measure => omega
                      case rel => exact ⟨T ++ [rowN (nowN f.code R) r], some ⟨g', 0, none⟩, cap, m2 + 1, rfl, by go_num, by omega, HT2, HO3, HG3, HC3⟩
                  · go_upto_region 27 with fail
                    go_quiet (fail)
                    generalize hwd : World.drewN _ _ = wd
                    have hbd : Below wr.heap.size wr wd := by rw [← hwd]; exact Below.drewN' ((Below.refl _ _).alloc (Nat.le_refl _) _) _
                    have HRB : Hid (wd.heap[wr.heap.size]? = some (.cells #[.int .i64 jf, .int .i64 jt, .int .i64 ja, .string (tx r.cls)] 54 (0, 0))) := lhid (by rw [← hwd]; exact heap_alloc_new wr _)
                    have HOD : Hid (OwR w wd w5.heap.size (.slice A3 T.length q3) T) := lhid (by obtain ⟨xs, h1, h2⟩ := HOR.out; exact ⟨xs, own_below h1 hbd, h2⟩)
                    have HGD : Hid (FBox wd G (.slice FA f.regs.length ac) (.slice FB f.params.length bc) f.ret (.slice A L.length q) (.slice A3 T.length q3)) := lhid (heap_keep HGQ.out hbd)
                    have HCD := lhid (HCQ.out.below hbd)
                    replace d0 := (hbd.cell (cell_lt d0)).trans d0
                    replace d1 := (hbd.cell (cell_lt d1)).trans d1
                    replace d2 := (hbd.cell (cell_lt d2)).trans d2
                    replace e0 := (hbd.cell (cell_lt e0)).trans e0
                    clear hwd c0 c1 c2 c3 hbd p0 p1 p2 p3 p4 hgl hng hrg

                    have HT2 : Hid (T = trR f.rows R (nowN f.code R) (m2 + 1)) := lhid (by rw [trR_no HX.out (by rw [HRK.out]; simp [hs])]; exact HT.out)
                    go_wp2_with fail
                    go_roundg (f.rows.length - (m2 + 1))
                    case measure => omega
                    case rel => exact ⟨T, A3, q3, m2 + 1, rfl, by go_num, by omega, HT2, HOD, HGD, HCD⟩

              · have k3 : ¬ (m2 : Int) < f.rows.length := by omega
                have hke : m2 = f.rows.length := by omega
                have HTR : Hid (T = trR f.rows R (nowN f.code R) f.rows.length) := lhid (by rw [← hke]; exact HT.out)
                clear hke
                have hzw : ZBox wr (B0 + 1) := heap_keep HZ2.out hbw
                obtain ⟨y0, y1, y2, y3, y4⟩ := ZBox.cells' hzw
                have zz := heap_thaw hzw
                have zl := heap_lt hzw
                have HZW := lhid hzw
                have HBQ := lhid hBw0
                obtain ⟨g0, g1, g2, g3, g4⟩ := FBox.cells HGQ.out
                clear hzw hbw hBw0
                go_wp2_with fail
                refine bodyPost_ret (results_cell_row rfl _ _ (B0 + 1) 26 _ _ _ rfl (five_set HZW.out rfl _ _ _ _ _) Try.underlying26 rfl sizeFun) rfl ?_
                refine ⟨trimF f R, _, _, _, _, rfl, ?_, ⟨fun h => absurd HC0.out h, fun _ => ⟨R, HIR.out, rfl⟩⟩, ?_⟩
                · have hB0 := HB0.out
                  have h8 : ∀ (w' : World), Below B0 w w' → (∀ b, w5.heap.size ≤ b → b < wr.heap.size → w'.heap[b]? = wr.heap[b]?) → (∀ b, G + 1 ≤ b → b < w5.heap.size → w'.heap[b]? = wr.heap[b]?) → FuV Tru w' (trimF f R) (.slice FA f.regs.length ac) (.slice FB f.params.length bc) (.slice A L.length q) (.slice A3 T.length q3) := fun w' hw k1 k2 => by
                    have hfu := HFU.out.below (w' := w') (by rw [← hB0]; exact hw)
                    have hcl9 : (trimF f R).code = L := by rw [HL.out]; show trT _ _ _ = _; rw [HN.out]
                    have hrl9 : (trimF f R).rows = T := HTR.out.symm
                    refine ⟨hfu.a.any fun _ _ => trivial, hfu.b.any fun _ _ => trivial, ?_, ?_⟩
                    · rw [hcl9]
                      refine HO.out.rd (fun b hb hl => hw.block b (by omega)) (fun b hb => ?_) ?_
                      · obtain ⟨xs, h5, _⟩ := HO.out
                        have h6 := h5.lt b hb
                        exact (k2 b h6.1 h6.2).trans (HCQ.out.block b h6.2 (by omega))
                      · have h5 := trT_len f.code (nowN f.code R) m
                        rw [HL.out]
                        omega
                    · rw [hrl9]
                      refine HOR.out.rd (fun b hb => ?_) ?_
                      · obtain ⟨xs, h5, _⟩ := HOR.out
                        have h6 := h5.lt b hb
                        exact k1 b h6.1 h6.2
                      · have h5 := trR_len f.rows R (nowN f.code R) f.rows.length
                        rw [HTR.out]
                        have := hrl.out
                        omega
                  exact h8 _ (five_below HBQ.out (by omega) _ _ _ _ _) (fun b hb hl => five_other (by have := HS5.out; have := HNUM.out; omega) _ _ _ _ _) (fun b hb hl => five_other (by have := HNUM.out; omega) _ _ _ _ _)
                · rw [← HB0.out]
                  exact five_below HBQ.out (by omega) _ _ _ _ _
  · have hcb : (c != 0) = true := by simpa using hc0
    have HIT : Hid (IsTrim f f) := lhid ⟨fun _ => rfl, fun h => absurd (hc.symm.trans h) hc0⟩
    clear hc hc0
    obtain ⟨y0, y1, y2, y3, y4⟩ := HZ1.out.cells'
    have zz := heap_thaw HZ1.out
    have zl := heap_lt HZ1.out
    go_wp2_with fail
    refine bodyPost_ret (results_cell_row rfl _ _ (B0 + 1) 26 _ _ _ rfl (five_set HZ1.out rfl _ _ _ _ _) Try.underlying26 rfl sizeFun) rfl ?_
    refine ⟨f, _, _, _, _, rfl, ?_, HIT.out, ?_⟩
    · have h8 : ∀ w', Below B0 w w' → FuV Tru w' f (.slice FA f.regs.length ac) (.slice FB f.params.length bc) (.slice D n dcap) (.slice E f.rows.length ecap) := fun w' hw => by
        have h9 := HFU.out.below (w' := w') (by rw [← HB0.out]; exact hw)
        exact h9.tru
      exact h8 _ (five_below HB1.out (by omega) _ _ _ _ _)
    · rw [← HB0.out]
      exact five_below HB1.out (by omega) _ _ _ _ _
end Go.Proofs.Ytifgkpfieapdjaa
