/- The walk of CodeBack. -/
import Derived.Test.YtifheohdgjamnaaCodeLaws
namespace Go.Proofs.Ytifheohdgjamnaa
open Go.RowKit Go
set_option linter.unusedVariables false

theorem wr_i64 (L : Bs) (p : Nat) : IntKind.i64.wrap (bN L p : Int) = bN L p := by
  have e : IntKind.i64.wrap (bN L p : Int) = if (9223372036854775808 : Int) ≤ (bN L p : Int) % 18446744073709551616 then (bN L p : Int) % 18446744073709551616 - 18446744073709551616 else (bN L p : Int) % 18446744073709551616 := by simp [IntKind.wrap, IntKind.signed, IntKind.bits]
  rw [e]
  have := bN_lt L p
  split <;> omega
theorem run_cons {L : Bs} {f p : Nat} {x : Cop} {r : List Cop} (h : run L f p = some (x :: r)) : p < L.length ∧ x = opAt L p ∧ p + szN (bN L p) ≤ L.length ∧ ∃ f', run L f' (p + szN (bN L p)) = some r := by
  cases f with
  | zero => simp [run] at h
  | succ f =>
    by_cases h0 : L.length ≤ p
    · rw [run_end h0] at h
      simp at h
    · by_cases h1 : szN (bN L p) = 0 ∨ L.length < p + szN (bN L p)
      · rw [run_no (by omega) h1] at h
        cases h
      · rw [run_on (by omega) (by omega) (by omega)] at h
        obtain ⟨D, e1, e2⟩ := Option.map_eq_some_iff.1 h
        injection e2 with e2 e3
        subst e3
        exact ⟨by omega, e2.symm, by omega, f, e1⟩
theorem run_nil {L : Bs} {f p : Nat} (h : run L f p = some []) : L.length ≤ p := by
  cases f with
  | zero => simp [run] at h
  | succ f =>
    by_cases h0 : L.length ≤ p
    · exact h0
    · by_cases h1 : szN (bN L p) = 0 ∨ L.length < p + szN (bN L p)
      · rw [run_no (by omega) h1] at h
        cases h
      · rw [run_on (by omega) (by omega) (by omega)] at h
        obtain ⟨D, e1, e2⟩ := Option.map_eq_some_iff.1 h
        simp at e2
theorem decR_bad {L : Bs} {e0 : Int} {D : List Cop} (h : decR L = (e0, D)) (he : e0 ≠ 0) : D = [] := by
  unfold decR at h
  split at h
  · injection h with _ h; exact h.symm
  split at h
  · injection h with _ h; exact h.symm
  split at h
  · injection h with _ h; exact h.symm
  split at h
  · injection h with h1 _; exact absurd h1.symm he
  · injection h with _ h; exact h.symm
theorem drop_cons {α : Type} {l : List α} {i : Nat} {x : α} (h : l[i]? = some x) : l.drop i = x :: l.drop (i + 1) := by
  obtain ⟨h1, h2⟩ := List.getElem?_eq_some_iff.1 h
  rw [List.drop_eq_getElem_cons h1, h2]
set_option maxHeartbeats 8000000 in
set_option maxRecDepth 100000 in
theorem CodeBack_walk (v : Value) (L : Bs) (w : World) (h : Bts w v L) :
    Calls Try.prog 5 #[v] w fun e w' => e = .returned (.bool true) ∧ Below w.heap.size w w' := by
  obtain ⟨hr, A0, cap, rfl, hcap, hmax⟩ := h
  have H : Hid (Bts w (.slice A0 L.length cap) L) := lhid ⟨hr, A0, cap, rfl, hcap, hmax⟩
  have hlen := hr.len
  clear hr
  obtain ⟨e0, D, hd⟩ : ∃ e0 D, decR L = (e0, D) := ⟨_, _, rfl⟩
  have HD := lhid hd
  by_cases he : e0 = 0
  case neg =>
    have hD := decR_bad hd he
    subst hD
    have q0 : ((e0 : Int) == 0) = false := by rw [beq_eq_false_iff_ne]; exact he
    have q1 : ((e0 : Int) != 0) = true := by rw [bne, q0]; rfl
    clear hd he
    go_enter Try.func5, Try.ntmps5
    go_wp2_with fail
    with_reducible refine (holds_any _).mono ?_
    rintro e w1 ⟨rfl, hb1⟩
    have HB1 := lhid hb1
    have H1 := lhid (H.out.below hb1)
    clear hb1
    go_wp2_with fail
    with_reducible refine (decode_any L _ _ H1).mono ?_
    rw [HD.out]
    rintro e w2 ⟨⟨v2, rfl, hv2⟩, hb2⟩
    have HB2 := lhid (HB1.out.trans (hb2.mono HB1.out.size))
    obtain ⟨A2, c2, rfl⟩ := hv2.shape
    clear hb2 hv2
    have hnil : ([] : List Cop).length = 0 := rfl
    rw [hnil]
    go_wp2_with fail
    go_ret
    exact ⟨rfl, HB2.out⟩
  subst he
  have HE := lhid (encR_ok hd)
  have HRUN := lhid (decR_ok hd).1
  have hl4 := (decR_ok hd).2.2
  clear hd
  go_enter Try.func5, Try.ntmps5
  go_wp2_with fail
  with_reducible refine (holds_any _).mono ?_
  rintro e w1 ⟨rfl, hb1⟩
  have HB1 := lhid hb1
  have H1 := lhid (H.out.below hb1)
  clear hb1
  go_wp2_with fail
  with_reducible refine (decode_any L _ _ H1).mono ?_
  rw [HD.out]
  rintro e w2 ⟨⟨v2, rfl, hv2⟩, hb2⟩
  have HB2 := lhid (HB1.out.trans (hb2.mono HB1.out.size))
  have H2 := lhid (H1.out.below hb2)
  have HV2 := lhid hv2
  clear hb2 hv2
  go_wp2_with fail
  with_reducible refine (encode_any D _ _ HV2).mono ?_
  rw [HE.out]
  rintro e w3 ⟨⟨v3, rfl, hv3⟩, hb3⟩
  have HB3 := lhid (HB2.out.trans (hb3.mono HB2.out.size))
  have H3 := lhid (H2.out.below hb3)
  have hv2b := HV2.out.below hb3
  obtain ⟨A2, c2, rfl⟩ := hv2b.shape
  have HV3 := lhid hv2b
  have hDl := hv2b.len
  obtain ⟨A3, c3, rfl⟩ := hv3.1.shape
  have g2 := conv_b _ _ _ _ _ H3.out.1 rfl
  have g3 := conv_b _ _ _ _ _ hv3.1 rfl
  have g1 := tx_refl' L
  clear hb3 hv3 hv2b
  go_wp2_with fail
  clear g2 g3
  go_loopw [7, 38] (fun at_ i wr => ∃ (p j : Nat), at_ = .int .i64 p ∧ i = .int .i64 j ∧ j ≤ D.length ∧ p ≤ L.length ∧ Hid (∃ f, run L f p = some (D.drop j)) ∧ Hid (Below w3.heap.size w3 wr)) (fun _ i _ => D.length - (intOf i).toNat)
  case atStart => exact ⟨0, 0, rfl, rfl, Nat.zero_le _, Nat.zero_le _, lhid ⟨_, HRUN.out⟩, lhid (Below.refl _ _)⟩
  case round =>
    obtain ⟨p, j, rfl, rfl, hj, hp, HR, HB⟩ := hrel
    by_cases hlt : j < D.length
    · obtain ⟨x, hx⟩ : ∃ x, D[j]? = some x := ⟨_, List.getElem?_eq_getElem hlt⟩
      have hrun := HR.out
      rw [drop_cons hx] at hrun
      obtain ⟨f, hrun⟩ := hrun
      obtain ⟨hpl, hxe, hfit, hnext⟩ := run_cons hrun
      have HNX := lhid hnext
      obtain ⟨g, o, rfl, hc⟩ := (HV3.out.below HB.out).at' hx
      obtain ⟨c0, c1, c2, c3⟩ := cell4 hc
      obtain ⟨gb, ob, rfl, hcb⟩ := byt_of ((H3.out.below HB.out).1) hpl
      have b0 : wr.cell? ⟨gb, ob + p, none⟩ = some (.int .u8 (bN L p)) := hcb 0 (by omega)
      have hgb : gb < wr.heap.size := cell_lt b0
      have hgb2 : ¬ gb = wr.heap.size := by omega
      have e1 : x.pc = (p : Int) := by rw [hxe]; rfl
      have e2 : x.code = (bN L p : Int) := by rw [hxe]; rfl
      rw [e1] at c0
      rw [e2] at c1
      obtain ⟨n, hn⟩ : ∃ n, szN (bN L p) = n := ⟨_, rfl⟩
      rw [hn] at hfit HNX
      have HS := lhid hn
      clear hn
      have k3 : (j : Int) < D.length := by omega
      have k4 : (p : Int) < L.length := by omega
      have x0 := wr_b L p
      have HB2 := lhid (HB.out.alloc HB.out.size (.cells #[.int .i64 p, .int .i64 (bN L p), .int .i64 x.a, .int .i64 x.b] 38))
      have r0 : ((p : Int) != p) = false := by simp
      have r1 : ((bN L p : Int) != IntKind.i64.wrap (bN L p : Int)) = false := by rw [wr_i64]; simp
      clear hx hrun hc hcb hnext hxe e1 e2
      go_wp2_with fail
      go_quiet (fail)
      go_wp2_with fail
      with_reducible refine (size_r _ _ _ HS).mono ?_
      rintro e w5 ⟨rfl, rfl⟩
      go_wp2_with fail
      go_roundw
      case rel => exact ⟨p + n, j + 1, by go_num, by go_num, by omega, by omega, HNX, lhid (Below.drewN' HB2.out _)⟩
      case measure => simp [intOf]; omega
    · have k3 : ¬ (j : Int) < D.length := by omega
      have hrun := HR.out
      rw [List.drop_eq_nil_of_le (by omega)] at hrun
      obtain ⟨f, hrun⟩ := hrun
      have hpl := run_nil hrun
      have hpe : p = L.length := by omega
      have r0 : ((p : Int) == L.length) = true := by rw [beq_iff_eq]; omega
      have HB4 := lhid (HB3.out.trans (HB.out.mono HB3.out.size))
      clear hrun hpl hpe
      go_wp2_with fail
      go_ret
      exact ⟨rfl, HB4.out⟩
end Go.Proofs.Ytifheohdgjamnaa
