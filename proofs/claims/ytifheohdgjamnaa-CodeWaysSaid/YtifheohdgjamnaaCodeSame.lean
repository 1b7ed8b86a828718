/- Contracts of the two that compare instructions, and of allLead. -/
import Derived.Test.YtifheohdgjamnaaCodeRef2
import Derived.Deep.QuietTactic
namespace Go.Proofs.Ytifheohdgjamnaa
open Go.RowKit Go
set_option linter.unusedVariables false

theorem take_on {α : Type} {l m : List α} {k : Nat} {a b : α} (ha : l[k]? = some a) (hb : m[k]? = some b) (h : l.take k = m.take k) (e : a = b) : l.take (k + 1) = m.take (k + 1) := by
  subst e
  rw [List.take_add_one, List.take_add_one, ha, hb, h]
theorem ne_at {α : Type} {l m : List α} {k : Nat} {a b : α} (ha : l[k]? = some a) (hb : m[k]? = some b) (e : a ≠ b) : l ≠ m := by
  rintro rfl
  rw [ha] at hb
  exact e (Option.some.inj hb)
theorem cell4 {w : World} {g o i : Nat} {x : Cop} (h : ∀ (j : Nat) u, (copE x)[j]? = some u → w.cell? ⟨g, o + i * 4 + j, none⟩ = some u) : w.cell? ⟨g, o + i * 4, none⟩ = some (.int .i64 x.pc) ∧ w.cell? ⟨g, o + i * 4 + 1, none⟩ = some (.int .i64 x.code) ∧ w.cell? ⟨g, o + i * 4 + 2, none⟩ = some (.int .i64 x.a) ∧ w.cell? ⟨g, o + i * 4 + 3, none⟩ = some (.int .i64 x.b) :=
  ⟨h 0 _ rfl, h 1 _ rfl, h 2 _ rfl, h 3 _ rfl⟩
set_option maxHeartbeats 4000000 in
set_option maxRecDepth 100000 in
theorem rsame_any (v u : Value) (l m : List Cop) (w : World) (h1 : Hid (RdO w v l)) (h2 : Hid (RdO w u m)) :
    Calls Try.prog 11 #[v, u] w (SOut (l = m) w) := by
  obtain ⟨A, cA, rfl⟩ := h1.out.shape
  obtain ⟨B, cB, rfl⟩ := h2.out.shape
  have hl1 := h1.out.len
  have hl2 := h2.out.len
  by_cases hlen : l.length = m.length
  case neg =>
    have e1 : ((l.length : Int) == m.length) = false := by rw [beq_eq_false_iff_ne]; omega
    have e2 : ((l.length : Int) != m.length) = true := by rw [bne, e1]; rfl
    have HNE : Hid (l ≠ m) := lhid (fun e => hlen (by rw [e]))
    clear hlen
    go_enter Try.func11, Try.ntmps11
    go_wp2_with fail
    go_ret
    exact sout_no HNE.out (Below.refl _ _)
  have e1 : ((l.length : Int) == m.length) = true := by rw [beq_iff_eq]; omega
  have e2 : ((l.length : Int) != m.length) = false := by rw [bne, e1]; rfl
  have HL := lhid hlen
  clear hlen
  go_enter Try.func11, Try.ntmps11
  go_wp2_with fail
  go_loopw [5] (fun i wr => ∃ k n : Nat, i = .int .i64 k ∧ k ≤ l.length ∧ Hid (l.take k = m.take k) ∧ wr = w.drewN n) (fun i _ => l.length - (intOf i).toNat)
  case atStart => exact ⟨0, 0, rfl, Nat.zero_le _, lhid (by simp), rfl⟩
  case round =>
    obtain ⟨k, n, rfl, hk, HE, rfl⟩ := hrel
    by_cases hlt : k < l.length
    · have hmt : k < m.length := by have := HL.out; omega
      obtain ⟨x, hx⟩ : ∃ x, l[k]? = some x := ⟨_, List.getElem?_eq_getElem hlt⟩
      obtain ⟨y, hy⟩ : ∃ y, m[k]? = some y := ⟨_, List.getElem?_eq_getElem hmt⟩
      have HX := lhid hx
      have HY := lhid hy
      obtain ⟨g, o, rfl, hc⟩ := h1.out.at' hx
      obtain ⟨g', o', rfl, hd⟩ := h2.out.at' hy
      obtain ⟨c0, c1, c2, c3⟩ := cell4 hc
      obtain ⟨d0, d1, d2, d3⟩ := cell4 hd
      have k3 : (k : Int) < l.length := by omega
      have k4 : (k : Int) < m.length := by omega
      clear hx hy hc hd
      by_cases q0 : x.pc = y.pc
      case neg =>
        have HNE : Hid (l ≠ m) := lhid (ne_at HX.out HY.out (fun e => q0 (by rw [e])))
        go_wp2_with fail
        go_quiet (fail)
        go_wp2_with fail
        go_ret
        exact sout_no HNE.out (Below.drewN' (Below.drewN' (Below.refl _ _) _) _)
      by_cases q1 : x.code = y.code
      case neg =>
        have HNE : Hid (l ≠ m) := lhid (ne_at HX.out HY.out (fun e => q1 (by rw [e])))
        go_wp2_with fail
        go_quiet (fail)
        go_wp2_with fail
        go_ret
        exact sout_no HNE.out (Below.drewN' (Below.drewN' (Below.refl _ _) _) _)
      by_cases q2 : x.a = y.a
      case neg =>
        have HNE : Hid (l ≠ m) := lhid (ne_at HX.out HY.out (fun e => q2 (by rw [e])))
        go_wp2_with fail
        go_quiet (fail)
        go_wp2_with fail
        go_ret
        exact sout_no HNE.out (Below.drewN' (Below.drewN' (Below.refl _ _) _) _)
      by_cases q3 : x.b = y.b
      case neg =>
        have HNE : Hid (l ≠ m) := lhid (ne_at HX.out HY.out (fun e => q3 (by rw [e])))
        go_wp2_with fail
        go_quiet (fail)
        go_wp2_with fail
        go_ret
        exact sout_no HNE.out (Below.drewN' (Below.drewN' (Below.refl _ _) _) _)
      have HE2 : Hid (l.take (k + 1) = m.take (k + 1)) := lhid (take_on HX.out HY.out HE.out (Cop.same q0 q1 q2 q3))
      go_wp2_with fail
      go_quiet (fail)
      go_wp2_with fail
      go_roundw
      case rel => exact ⟨k + 1, _, by go_num, by omega, HE2, rfl⟩
      case measure => simp [intOf]; omega
    · have k3 : ¬ (k : Int) < l.length := by omega
      have he := HE.out
      rw [List.take_of_length_le (by omega), List.take_of_length_le (by have := HL.out; omega)] at he
      have HEQ := lhid he
      clear he HE
      go_wp2_with fail
      go_ret
      exact sout_yes HEQ.out (Below.drewN' (Below.refl _ _) _)
set_option maxHeartbeats 4000000 in
set_option maxRecDepth 100000 in
theorem same_any (v u : Value) (l m : List Cop) (w : World) (h1 : Hid (RdO w v l)) (h2 : Hid (RdO w u m)) :
    Calls Try.prog 25 #[v, u] w (SOut (l = m) w) := by
  obtain ⟨A, cA, rfl⟩ := h1.out.shape
  obtain ⟨B, cB, rfl⟩ := h2.out.shape
  have hl1 := h1.out.len
  have hl2 := h2.out.len
  by_cases hlen : l.length = m.length
  case neg =>
    have e1 : ((l.length : Int) == m.length) = false := by rw [beq_eq_false_iff_ne]; omega
    have e2 : ((l.length : Int) != m.length) = true := by rw [bne, e1]; rfl
    have HNE : Hid (l ≠ m) := lhid (fun e => hlen (by rw [e]))
    clear hlen
    go_enter Try.func25, Try.ntmps25
    go_wp2_with fail
    go_ret
    exact sout_no HNE.out (Below.refl _ _)
  have e1 : ((l.length : Int) == m.length) = true := by rw [beq_iff_eq]; omega
  have e2 : ((l.length : Int) != m.length) = false := by rw [bne, e1]; rfl
  have HL := lhid hlen
  clear hlen
  go_enter Try.func25, Try.ntmps25
  go_wp2_with fail
  go_loopw [13] (fun i wr => ∃ k n : Nat, i = .int .i64 k ∧ k ≤ l.length ∧ Hid (l.take k = m.take k) ∧ wr = w.drewN n) (fun i _ => l.length - (intOf i).toNat)
  case atStart => exact ⟨0, 0, rfl, Nat.zero_le _, lhid (by simp), rfl⟩
  case round =>
    obtain ⟨k, n, rfl, hk, HE, rfl⟩ := hrel
    by_cases hlt : k < l.length
    · have hmt : k < m.length := by have := HL.out; omega
      obtain ⟨x, hx⟩ : ∃ x, l[k]? = some x := ⟨_, List.getElem?_eq_getElem hlt⟩
      obtain ⟨y, hy⟩ : ∃ y, m[k]? = some y := ⟨_, List.getElem?_eq_getElem hmt⟩
      have HX := lhid hx
      have HY := lhid hy
      obtain ⟨g, o, rfl, hc⟩ := h1.out.at' hx
      obtain ⟨g', o', rfl, hd⟩ := h2.out.at' hy
      obtain ⟨c0, c1, c2, c3⟩ := cell4 hc
      obtain ⟨d0, d1, d2, d3⟩ := cell4 hd
      have k3 : (k : Int) < l.length := by omega
      have k4 : (k : Int) < m.length := by omega
      clear hx hy hc hd
      by_cases q0 : x.pc = y.pc
      case neg =>
        have HNE : Hid (l ≠ m) := lhid (ne_at HX.out HY.out (fun e => q0 (by rw [e])))
        go_wp2_with fail
        go_quiet (fail)
        go_wp2_with fail
        go_ret
        exact sout_no HNE.out (Below.drewN' (Below.drewN' (Below.refl _ _) _) _)
      by_cases q1 : x.code = y.code
      case neg =>
        have HNE : Hid (l ≠ m) := lhid (ne_at HX.out HY.out (fun e => q1 (by rw [e])))
        go_wp2_with fail
        go_quiet (fail)
        go_wp2_with fail
        go_ret
        exact sout_no HNE.out (Below.drewN' (Below.drewN' (Below.refl _ _) _) _)
      by_cases q2 : x.a = y.a
      case neg =>
        have HNE : Hid (l ≠ m) := lhid (ne_at HX.out HY.out (fun e => q2 (by rw [e])))
        go_wp2_with fail
        go_quiet (fail)
        go_wp2_with fail
        go_ret
        exact sout_no HNE.out (Below.drewN' (Below.drewN' (Below.refl _ _) _) _)
      by_cases q3 : x.b = y.b
      case neg =>
        have HNE : Hid (l ≠ m) := lhid (ne_at HX.out HY.out (fun e => q3 (by rw [e])))
        go_wp2_with fail
        go_quiet (fail)
        go_wp2_with fail
        go_ret
        exact sout_no HNE.out (Below.drewN' (Below.drewN' (Below.refl _ _) _) _)
      have HE2 : Hid (l.take (k + 1) = m.take (k + 1)) := lhid (take_on HX.out HY.out HE.out (Cop.same q0 q1 q2 q3))
      go_wp2_with fail
      go_quiet (fail)
      go_wp2_with fail
      go_roundw
      case rel => exact ⟨k + 1, _, by go_num, by omega, HE2, rfl⟩
      case measure => simp [intOf]; omega
    · have k3 : ¬ (k : Int) < l.length := by omega
      have he := HE.out
      rw [List.take_of_length_le (by omega), List.take_of_length_le (by have := HL.out; omega)] at he
      have HEQ := lhid he
      clear he HE
      go_wp2_with fail
      go_ret
      exact sout_yes HEQ.out (Below.drewN' (Below.refl _ _) _)
theorem leads_r (c : Int) (b : Bool) (w : World) (h : Hid (decide (rowN c = 6) = b)) :
    Calls Try.prog 16 #[.int .i64 c] w fun e w' => e = .returned (.bool b) ∧ w = w' := by
  have := leads_any c w
  rwa [h.out] at this
theorem make_bools (n : Nat) (hn : n ≤ 4000) (w : World) :
    (Instr.makeSlice 47 (.int .i64 (n : Int)) (.int .i64 (n : Int))).run Try.prog w = .ok (.slice (some ⟨w.heap.size, 0, none⟩) n n) (w.alloc (.cells (madeCells #[.bool false] n) 4)) := by
  obtain ⟨i0, hi0, hz0, hz1, hz2⟩ := info_parts (show (Try.prog.info? 4).map (fun i => (i.zero, i.size, i.bytes)) = some (some (.bool false), 1, 1) by kernel_rfl)
  have h := run_make (P := Try.prog) w 47 4 i0 _ Try.underlying47 hi0 hz0 .i64 .i64 n n (by omega) (Int.le_refl _) (by rw [hz2]; omega) (by omega)
  rw [h, hz1, Nat.mul_one]
  rfl
def Begun (D : List Cop) (p : Nat) : Prop := ∃ x ∈ D, x.pc = (p : Int)
def Led1 (D : List Cop) (n : Int) (x : Cop) : Prop := Lead x → 0 ≤ x.a ∧ x.a < n ∧ ∃ y ∈ D, y.pc = x.a
theorem begun_on {D : List Cop} {k p : Nat} {x : Cop} (hx : D[k]? = some x) (hp : x.pc = p) (i : Nat) : Begun (D.take (k + 1)) i ↔ Begun (D.take k) i ∨ i = p := by
  unfold Begun
  rw [List.take_add_one, hx]
  constructor
  · rintro ⟨y, hy, e⟩
    rcases List.mem_append.1 hy with hy | hy
    · exact .inl ⟨y, hy, e⟩
    · simp at hy
      subst hy
      exact .inr (by omega)
  · rintro (⟨y, hy, e⟩ | rfl)
    · exact ⟨y, List.mem_append_left _ hy, e⟩
    · exact ⟨x, by simp, hp⟩
theorem led_on {D E : List Cop} {n : Int} {k : Nat} {x : Cop} (hx : D[k]? = some x) (h : ∀ y ∈ D.take k, Led1 E n y) (hl : Led1 E n x) : ∀ y ∈ D.take (k + 1), Led1 E n y := by
  rw [List.take_add_one, hx]
  intro y hy
  rcases List.mem_append.1 hy with hy | hy
  · exact h y hy
  · simp at hy
    subst hy
    exact hl
theorem led_iff (D : List Cop) (n : Int) : Led D n ↔ ∀ x ∈ D, Led1 D n x := Iff.rfl
set_option maxHeartbeats 4000000 in
set_option maxRecDepth 100000 in
theorem allLead_any (v : Value) (D : List Cop) (n : Nat) (w : World) (h : Hid (RdO w v D)) (hn : n ≤ 4000) (hp : Hid (∀ x ∈ D, ∃ p : Nat, x.pc = p ∧ p < n)) :
    Calls Try.prog 21 #[v, .int .i64 n] w (SOut (Led D n) w) := by
  obtain ⟨A, cA, rfl⟩ := h.out.shape
  have hl := h.out.len
  have hmake := make_bools n hn
  go_enter Try.func21, Try.ntmps21
  go_wp2_with fail
  clear hmake
  go_loopw [14] (fun i wr => ∃ k : Nat, i = .int .i64 k ∧ k ≤ D.length ∧ Hid (Marks wr w.heap.size n (Begun (D.take k))) ∧ Hid (Below w.heap.size w wr)) (fun i _ => D.length - (intOf i).toNat)
  case atStart => exact ⟨0, rfl, Nat.zero_le _, lhid (Marks.made w n _ rfl _ (by intro i; unfold Begun; simp) _ rfl), lhid ((Below.refl _ _).alloc (Nat.le_refl _) _)⟩
  case round =>
    obtain ⟨k, rfl, hk, HM, HB⟩ := hrel
    by_cases hlt : k < D.length
    · obtain ⟨x, hx⟩ : ∃ x, D[k]? = some x := ⟨_, List.getElem?_eq_getElem hlt⟩
      have HX := lhid hx
      obtain ⟨p, hxp, hpn⟩ := hp.out x (List.mem_of_getElem? hx)
      obtain ⟨g, o, rfl, hc⟩ := (h.out.below HB.out).at' hx
      obtain ⟨c0, c1, c2, c3⟩ := cell4 hc
      obtain ⟨bb, b0, _⟩ := HM.out.cell hpn
      have b1 := HM.out.fz
      have b2 := HM.out.lt
      have HP := lhid hxp
      rw [hxp] at c0
      have k3 : (k : Int) < D.length := by omega
      have k4 : (p : Int) < n := by omega
      have HM2 := lhid ((HM.out.set hpn (begun_on HX.out HP.out)).below ((Below.refl _ _).alloc (Nat.le_refl _) (.cells #[.int .i64 p, .int .i64 x.code, .int .i64 x.a, .int .i64 x.b] 38)))
      have hb2 := HB.out.setCell (p := ⟨w.heap.size, p, none⟩) (Nat.le_refl _) (.bool true)
      have HB2 := lhid (hb2.alloc hb2.size (.cells #[.int .i64 p, .int .i64 x.code, .int .i64 x.a, .int .i64 x.b] 38))
      clear hx hxp hc hb2
      go_wp2_with fail
      go_roundw
      case rel => exact ⟨k + 1, by go_num, by omega, HM2, HB2⟩
      case measure => simp [intOf]; omega
    · have k3 : ¬ (k : Int) < D.length := by omega
      have hm := HM.out
      rw [List.take_of_length_le (by omega)] at hm
      have HN := lhid hm
      clear hm HM
      go_wp2_with fail
      go_loopw [25] (fun i wq => ∃ k : Nat, i = .int .i64 k ∧ k ≤ D.length ∧ Hid (∀ x ∈ D.take k, Led1 D n x) ∧ Hid (Marks wq w.heap.size n (Begun D)) ∧ Hid (Below w.heap.size w wq)) (fun i _ => D.length - (intOf i).toNat)
      case atStart => exact ⟨0, rfl, Nat.zero_le _, lhid (by simp), HN, HB⟩
      case round =>
        clear HN HB hk
        obtain ⟨k, rfl, hk, HE, HM, HB⟩ := hrel
        by_cases hlt : k < D.length
        · obtain ⟨x, hx⟩ : ∃ x, D[k]? = some x := ⟨_, List.getElem?_eq_getElem hlt⟩
          have HX := lhid hx
          obtain ⟨g, o, rfl, hc⟩ := (h.out.below HB.out).at' hx
          obtain ⟨c0, c1, c2, c3⟩ := cell4 hc
          have k3 : (k : Int) < D.length := by omega
          have HM2 := lhid (HM.out.below ((Below.refl _ _).alloc (Nat.le_refl _) (.cells #[.int .i64 x.pc, .int .i64 x.code, .int .i64 x.a, .int .i64 x.b] 38)))
          have HB2 := lhid (HB.out.alloc HB.out.size (.cells #[.int .i64 x.pc, .int .i64 x.code, .int .i64 x.a, .int .i64 x.b] 38))
          have HI : Hid (x ∈ D) := lhid (List.mem_of_getElem? hx)
          have b2 := HM.out.lt
          clear hx hc
          by_cases hr : rowN x.code = 6
          · have HR : Hid (decide (rowN x.code = 6) = true) := lhid (decide_eq_true hr)
            have HL : Hid (Lead x) := lhid hr
            clear hr
            by_cases ha : x.a < 0
            · have HNO : Hid (¬ Led D n) := lhid fun e => by have := e x HI.out HL.out; omega
              go_wp2_with fail
              with_reducible refine (leads_r _ _ _ HR).mono ?_
              rintro e w2 ⟨rfl, rfl⟩
              go_wp2_with fail
              go_ret
              exact sout_no HNO.out HB2.out
            · by_cases ha2 : x.a < n
              · obtain ⟨p, hp2⟩ : ∃ p : Nat, x.a = p := ⟨x.a.toNat, by omega⟩
                have hpn : p < n := by omega
                obtain ⟨bb, b0, hbb⟩ := HM.out.cell hpn
                have HBB := lhid hbb
                have HP := lhid hp2
                have HXA := lhid hp2
                have ha3 : ¬ (n : Int) ≤ x.a := by omega
                have k5 : (p : Int) < n := by omega
                rw [hp2] at c2 ha ha2 ha3 HM2 HB2
                clear hp2 hbb
                cases bb
                · have HNO : Hid (¬ Led D n) := lhid fun e => by
                    obtain ⟨_, _, y, hy, e2⟩ := e x HI.out HL.out
                    have := HBB.out.2 ⟨y, hy, by rw [e2, HP.out]⟩
                    simp at this
                  go_wp2_with fail
                  with_reducible refine (leads_r _ _ _ HR).mono ?_
                  rintro e w2 ⟨rfl, rfl⟩
                  go_wp2_with fail
                  go_ret
                  exact sout_no HNO.out HB2.out
                · have HE2 := lhid (led_on HX.out HE.out (show Led1 D n x from fun _ => ⟨by rw [HP.out]; omega, by rw [HP.out]; omega, by
                    obtain ⟨y, hy, e2⟩ := HBB.out.1 rfl
                    exact ⟨y, hy, by rw [e2, HP.out]⟩⟩))
                  go_wp2_with fail
                  with_reducible refine (leads_r _ _ _ HR).mono ?_
                  rintro e w2 ⟨rfl, rfl⟩
                  go_wp2_with fail
                  go_roundw
                  case rel => exact ⟨k + 1, by go_num, by omega, HE2, HM2, HB2⟩
                  case measure => simp [intOf]; omega
              · have HNO : Hid (¬ Led D n) := lhid fun e => by have := e x HI.out HL.out; omega
                have ha3 : (n : Int) ≤ x.a := by omega
                go_wp2_with fail
                with_reducible refine (leads_r _ _ _ HR).mono ?_
                rintro e w2 ⟨rfl, rfl⟩
                go_wp2_with fail
                go_ret
                exact sout_no HNO.out HB2.out
          · have HR : Hid (decide (rowN x.code = 6) = false) := lhid (decide_eq_false hr)
            have HE2 := lhid (led_on HX.out HE.out (show Led1 D n x from fun hl => absurd hl hr))
            clear hr
            go_wp2_with fail
            with_reducible refine (leads_r _ _ _ HR).mono ?_
            rintro e w2 ⟨rfl, rfl⟩
            go_wp2_with fail
            go_roundw
            case rel => exact ⟨k + 1, by go_num, by omega, HE2, HM2, HB2⟩
            case measure => simp [intOf]; omega
        · have k3 : ¬ (k : Int) < D.length := by omega
          have he := HE.out
          rw [List.take_of_length_le (by omega)] at he
          have HYES : Hid (Led D n) := lhid he
          clear he HE
          go_wp2_with fail
          go_ret
          exact sout_yes HYES.out HB.out
end Go.Proofs.Ytifheohdgjamnaa
