/- The walks of law 06: CodeSizes, CodeDecodes, CodeEncodes, CodeBack. -/
import Derived.Test.YtifheohdgjamnaaCodeHolds
import Derived.Test.YtifheohdgjamnaaCodeREnc
import Derived.Laws.BytesArg
import Derived.Laws.BytesString
namespace Go.Proofs.Ytifheohdgjamnaa
open Go.RowKit Go
set_option linter.unusedVariables false

def tx (l : Bs) : ByteArray := ⟨l.toArray⟩
theorem tx_list (l : Bs) : (tx l).data.toList = l := by simp [tx]
theorem nums_tx (l : Bs) : strOfNums (l.map fun c => (c.toNat : Int)) = tx l := by
  apply ByteArray.ext
  apply Array.toList_inj.1
  show (strOfNums _).data.toList = (tx l).data.toList
  rw [tx_list]
  rw [show (strOfNums (l.map fun c => (c.toNat : Int))).data.toList = (l.map fun c => (c.toNat : Int)).map fun n => UInt8.ofNat n.toNat from by unfold strOfNums; simp, List.map_map]
  conv => rhs; rw [← List.map_id l]
  apply List.map_congr_left
  intro c _
  simp
theorem conv_b (w : World) (A : Option Addr) (n cap : Nat) (l : Bs) (h : RdB w (.slice A n cap) l) (hn : n = l.length) : (convert 22 9 (.slice A n cap)).run Try.prog w = .ok (.string (tx l)) w := by
  subst hn
  cases l with
  | nil =>
    rcases A with _ | ⟨b, o, sp⟩
    · exact run_convert_bytes_nil (P := Try.prog) w 22 5 Try.underlying22 Try.underlying5 0 cap 9 Try.underlying9
    · have h := run_convert_bytes_string w 22 9 5 (some ⟨b, o, sp⟩) 0 cap Try.underlying22 Try.underlying5 Try.underlying9
      show (convert 22 9 (.slice (some ⟨b, o, sp⟩) 0 cap)).run Try.prog w = _
      rw [h]
      simp [Conv.bytesToString]
      rfl
  | cons a r =>
    obtain ⟨g, o, rfl, _⟩ := h.at' (i := 0) (a := a) rfl
    generalize a :: r = m at h ⊢
    have h2 := run_convert_bytes_arg (P := Try.prog) w 22 5 Try.underlying22 Try.underlying5 g o m.length cap (m.map fun c => (c.toNat : Int)) (by simp) (fun i hi => by
      have hx := List.getElem?_eq_getElem hi
      obtain ⟨g', o', e, hc⟩ := h.at' hx
      injection e with e
      injection e with e1 e2
      subst e1 e2
      have := hc 0 _ rfl
      rw [Nat.mul_one] at this
      refine this.trans ?_
      simp [List.getD, hi]) 9 Try.underlying9
    rw [h2, nums_tx]
theorem tx_refl (l : Bs) : ((tx l).toList == (tx l).toList) = true := by simp
theorem tx_refl' (l : Bs) : ((tx l).toList != (tx l).toList) = false := by simp
set_option maxRecDepth 100000 in
theorem none_ends (c : Int) (h : szN c = 0) : rowN c ≠ 6 ∧ c ∉ ends := by
  have hr : rowN c = 0 := by
    have hle := rowN_le c
    unfold szN at h
    rcases row_ways hle with e | e | e | e | e | e | e | e <;> rw [e] at h <;> first | exact e | exact absurd h (by decide)
  refine ⟨by omega, fun hm => ?_⟩
  unfold ends at hm
  simp only [List.mem_cons, List.not_mem_nil, or_false] at hm
  rcases hm with rfl | rfl | rfl | rfl | rfl | rfl <;> exact absurd hr (by decide)
theorem ends_r (c : Int) (b : Bool) (w : World) (h : Hid (decide (c ∈ ends) = b)) :
    Calls Try.prog 18 #[.int .i64 c] w fun e w' => e = .returned (.bool b) ∧ w = w' := by
  have := ends_any c w
  rwa [h.out] at this
theorem rends_r (c : Int) (b : Bool) (w : World) (h : Hid (decide (c ∈ ends) = b)) :
    Calls Try.prog 19 #[.int .i64 c] w fun e w' => e = .returned (.bool b) ∧ Below w.heap.size w w' := by
  have := rends_any c w
  rwa [h.out] at this
set_option maxHeartbeats 8000000 in
set_option maxRecDepth 100000 in
theorem CodeSizes_walk (c : Int) (w : World) :
    Calls Try.prog 6 #[.int .i64 c] w fun e w' => e = .returned (.bool true) ∧ Below w.heap.size w w' := by
  obtain ⟨n, hn⟩ : ∃ n, szN c = n := ⟨_, rfl⟩
  obtain ⟨b, hb⟩ : ∃ b, decide (rowN c = 6) = b := ⟨_, rfl⟩
  obtain ⟨z, hz⟩ : ∃ b, decide (c ∈ ends) = b := ⟨_, rfl⟩
  have HN := lhid hn
  have HL := lhid hb
  have HZ := lhid hz
  have q0 : ((n : Int) == n) = true := by simp
  have hways : (0 < n) ∨ (n = 0 ∧ b = false ∧ z = false) := by
    by_cases h : 0 < n
    · exact .inl h
    · have h0 : n = 0 := by omega
      have := none_ends c (by omega)
      exact .inr ⟨h0, by rw [← hb]; exact decide_eq_false this.1, by rw [← hz]; exact decide_eq_false this.2⟩
  clear hn hb hz
  rcases hways with h | ⟨rfl, rfl, rfl⟩
  · have q1 : (0 : Int) < n := by omega
    clear h
    cases b <;> cases z
    all_goals
      go_enter Try.func6, Try.ntmps6
      go_wp2_with fail
      with_reducible refine (holds_any _).mono ?_
      rintro e w1 ⟨rfl, hb1⟩
      have HB1 := lhid hb1
      clear hb1
      go_wp2_with fail
      with_reducible refine (size_r _ _ _ HN).mono ?_
      rintro e w2 ⟨rfl, rfl⟩
      go_wp2_with fail
      with_reducible refine (rsize_r _ _ _ HN).mono ?_
      rintro e w3 ⟨rfl, hb3⟩
      have HB3 := lhid (HB1.out.trans (hb3.mono HB1.out.size))
      clear hb3
      go_wp2_with fail
      with_reducible refine (leads_r _ _ _ HL).mono ?_
      rintro e w4 ⟨rfl, rfl⟩
      go_wp2_with fail
      with_reducible refine (rleads_b _ _ _ HL).mono ?_
      rintro e w4 ⟨rfl, rfl⟩
      go_wp2_with fail
      with_reducible refine (ends_r _ _ _ HZ).mono ?_
      rintro e w4 ⟨rfl, rfl⟩
      go_wp2_with fail
      with_reducible refine (rends_r _ _ _ HZ).mono ?_
      rintro e w4 ⟨rfl, hb4⟩
      have HB4 := lhid (HB3.out.trans (hb4.mono HB3.out.size))
      clear hb4
      go_wp2_with fail
      with_reducible refine (size_r _ _ _ HN).mono ?_
      rintro e w5 ⟨rfl, rfl⟩
      go_wp2_with fail
      go_ret
      exact ⟨rfl, HB4.out⟩
  · go_enter Try.func6, Try.ntmps6
    go_wp2_with fail
    with_reducible refine (holds_any _).mono ?_
    rintro e w1 ⟨rfl, hb1⟩
    have HB1 := lhid hb1
    clear hb1
    go_wp2_with fail
    with_reducible refine (size_r _ _ _ HN).mono ?_
    rintro e w2 ⟨rfl, rfl⟩
    go_wp2_with fail
    with_reducible refine (rsize_r _ _ _ HN).mono ?_
    rintro e w3 ⟨rfl, hb3⟩
    have HB3 := lhid (HB1.out.trans (hb3.mono HB1.out.size))
    clear hb3
    go_wp2_with fail
    with_reducible refine (leads_r _ _ _ HL).mono ?_
    rintro e w4 ⟨rfl, rfl⟩
    go_wp2_with fail
    with_reducible refine (rleads_b _ _ _ HL).mono ?_
    rintro e w4 ⟨rfl, rfl⟩
    go_wp2_with fail
    with_reducible refine (ends_r _ _ _ HZ).mono ?_
    rintro e w4 ⟨rfl, rfl⟩
    go_wp2_with fail
    with_reducible refine (rends_r _ _ _ HZ).mono ?_
    rintro e w4 ⟨rfl, hb4⟩
    have HB4 := lhid (HB3.out.trans (hb4.mono HB3.out.size))
    clear hb4
    go_wp2_with fail
    with_reducible refine (size_r _ _ _ HN).mono ?_
    rintro e w5 ⟨rfl, rfl⟩
    go_wp2_with fail
    with_reducible refine (leads_r _ _ _ HL).mono ?_
    rintro e w4 ⟨rfl, rfl⟩
    go_wp2_with fail
    with_reducible refine (ends_r _ _ _ HZ).mono ?_
    rintro e w4 ⟨rfl, rfl⟩
    go_wp2_with fail
    go_ret
    exact ⟨rfl, HB4.out⟩
set_option maxHeartbeats 8000000 in
set_option maxRecDepth 100000 in
theorem CodeDecodes_walk (v : Value) (L : Bs) (w : World) (h : Bts w v L) :
    Calls Try.prog 3 #[v] w fun e w' => e = .returned (.bool true) ∧ Below w.heap.size w w' := by
  have H := lhid h
  clear h
  obtain ⟨e0, D, hd⟩ : ∃ e0 D, decR L = (e0, D) := ⟨_, _, rfl⟩
  have HD := lhid hd
  have q0 : ((e0 : Int) == e0) = true := by simp
  clear hd
  go_enter Try.func3, Try.ntmps3
  go_wp2_with fail
  with_reducible refine (holds_any _).mono ?_
  rintro e w1 ⟨rfl, hb1⟩
  have HB1 := lhid hb1
  have H1 := lhid (H.out.below hb1)
  clear hb1
  go_wp2_with fail
  with_reducible refine (decode_any L _ _ H1).mono ?_
  rw [HD.out]
  rintro e w2 ⟨⟨v2, rfl, hv2⟩, hb2⟩
  have HB2 := lhid (HB1.out.trans (hb2.mono HB1.out.size))
  have H2 := lhid (H1.out.below hb2)
  have HV2 := lhid hv2
  clear hb2 hv2
  go_wp2_with fail
  with_reducible refine (rdecode_any L _ _ H2).mono ?_
  rw [HD.out]
  rintro e w3 ⟨⟨v3, rfl, hv3⟩, hb3⟩
  have HB3 := lhid (HB2.out.trans (hb3.mono HB2.out.size))
  have HV2b := lhid (HV2.out.below hb3)
  have HV3 := lhid hv3
  clear hb3 hv3
  go_wp2_with fail
  with_reducible refine (rsame_y _ _ D D _ HV2b HV3 (lhid rfl)).mono ?_
  rintro e w4 ⟨rfl, hb4⟩
  have HB4 := lhid (HB3.out.trans (hb4.mono HB3.out.size))
  clear hb4
  go_wp2_with fail
  go_ret
  exact ⟨rfl, HB4.out⟩
set_option maxHeartbeats 8000000 in
set_option maxRecDepth 100000 in
theorem CodeEncodes_walk (v : Value) (l : List Cop) (w : World) (h : RdO w v l) :
    Calls Try.prog 4 #[v] w fun e w' => e = .returned (.bool true) ∧ Below w.heap.size w w' := by
  obtain ⟨A0, cA, rfl⟩ := h.shape
  have hlen := h.len
  have H := lhid h
  clear h
  obtain ⟨e0, E, hd⟩ : ∃ e0 E, encR l = (e0, E) := ⟨_, _, rfl⟩
  have HE := lhid hd
  have q0 : ((e0 : Int) == e0) = true := by simp
  clear hd
  by_cases h2 : 20000 < l.length
  · have q2 : (20000 : Int) < l.length := by omega
    go_enter Try.func4, Try.ntmps4
    go_wp2_with fail
    with_reducible refine (holds_any _).mono ?_
    rintro e w1 ⟨rfl, hb1⟩
    have HB1 := lhid hb1
    clear hb1
    go_wp2_with fail
    go_ret
    exact ⟨rfl, HB1.out⟩
  have q2 : ¬ (20000 : Int) < l.length := by omega
  go_enter Try.func4, Try.ntmps4
  go_wp2_with fail
  with_reducible refine (holds_any _).mono ?_
  rintro e w1 ⟨rfl, hb1⟩
  have HB1 := lhid hb1
  have H1 := lhid (H.out.below hb1)
  clear hb1
  go_wp2_with fail
  with_reducible refine (encode_any l _ _ H1).mono ?_
  rw [HE.out]
  rintro e w2 ⟨⟨v2, rfl, hv2⟩, hb2⟩
  have HB2 := lhid (HB1.out.trans (hb2.mono HB1.out.size))
  have H2 := lhid (H1.out.below hb2)
  have HV2 := lhid hv2
  clear hb2 hv2
  go_wp2_with fail
  with_reducible refine (rencode_any l _ _ H2).mono ?_
  rw [HE.out]
  rintro e w3 ⟨⟨v3, rfl, hv3⟩, hb3⟩
  have HB3 := lhid (HB2.out.trans (hb3.mono HB2.out.size))
  have hv2b := HV2.out.1.below hb3
  obtain ⟨A2, c2, rfl⟩ := hv2b.shape
  obtain ⟨A3, c3, rfl⟩ := hv3.1.shape
  have g2 := conv_b _ _ _ _ _ hv2b rfl
  have g3 := conv_b _ _ _ _ _ hv3.1 rfl
  have g1 := tx_refl E
  clear hb3 hv3 hv2b
  go_wp2_with fail
  go_ret
  exact ⟨rfl, HB3.out⟩
end Go.Proofs.Ytifheohdgjamnaa
