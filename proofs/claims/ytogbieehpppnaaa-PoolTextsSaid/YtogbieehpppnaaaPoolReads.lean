/- The walk of PoolReads. -/
import Derived.Test.YtogbieehpppnaaaPoolOpen
namespace Go.Proofs.Ytogbieehpppnaaa
open Go.RowKit Go
set_option linter.unusedVariables false

theorem rdI_form {w : World} {v : Value} {Z : List Int} (h : RdI w v Z) : ∃ A cap, v = .slice A Z.length cap ∧ Z.length ≤ maxLen := by
  rcases h with ⟨rfl, rfl⟩ | ⟨b, o, cap, rfl, h1, h2, _⟩
  · exact ⟨_, _, rfl, by unfold maxLen; simp⟩
  · exact ⟨_, _, rfl, by omega⟩
theorem rdI_at {w : World} {A : Option Addr} {n cap : Nat} {Z : List Int} (h : RdI w (.slice A n cap) Z) {i : Nat} {z : Int} (hz : Z[i]? = some z) : ∃ b o, A = some ⟨b, o, none⟩ ∧ b < w.heap.size ∧ w.cell? ⟨b, o + i, none⟩ = some (.int .i64 z) := by
  rcases h with ⟨h1, rfl⟩ | ⟨b, o, cap', h1, _, _, hc⟩
  · simp at hz
  · cases h1
    have := hc i z hz
    exact ⟨b, o, rfl, World.block_lt_of_cell? w _ this, this⟩
set_option maxHeartbeats 8000000 in
set_option maxRecDepth 100000 in
theorem PoolReads_walk (v0 v1 : Value) (L : Bs) (Z : List Int) (w : World) (h : RdB w v0 L) (hz : RdI w v1 Z) :
    Calls Try.prog 3 #[v0, v1] w fun e w' => e = .returned (.bool true) ∧ Below w.heap.size w w' := by
  have HLOW := lhid (rdB_low h)
  have HR := lhid h
  obtain ⟨A, cap, rfl, hlm⟩ := rdB_form h
  obtain ⟨A1, cap1, rfl, hzm⟩ := rdI_form hz
  have HZ := lhid hz
  unfold maxLen at hlm hzm
  clear h hz
  go_enter Try.func3, Try.ntmps3
  go_wp2_with fail
  with_reducible refine (holds_any _).mono ?_
  rintro e w1 ⟨rfl, hw⟩
  have HW := lhid hw
  have HR1 := lhid (rdB_below HR.out HLOW.out hw)
  have hw1 := hw.size
  clear hw
  go_wp2_with fail
  with_reducible refine (from_any _ L _ HR1.out).mono ?_
  rintro e w2 ⟨rfl, rfl⟩
  go_wp2_with fail
  have HRD : Hid (Rdr ((w1.alloc (.cells #[.string (tx L), .bool false] 58)).alloc (.cells #[.slice A L.length cap, .int .i64 0, .bool false] 29)) w1.heap.size (L, false)) := lhid (new_one w1 _ _)
  have HDC : Hid (DocS w.heap.size ((w1.alloc (.cells #[.string (tx L), .bool false] 58)).alloc (.cells #[.slice A L.length cap, .int .i64 0, .bool false] 29)) (w1.heap.size + 1) (.slice A L.length cap) L (L, false)) := lhid (by
    have := docS_new (B := w.heap.size) (w := w1.alloc (.cells #[.string (tx L), .bool false] 58)) (rdB_below HR1.out HLOW.out ((Below.refl w.heap.size w1).alloc hw1 _)) HLOW.out (by simp; omega)
    rwa [World.size_alloc] at this)
  have HB0 := lhid ((HW.out.alloc hw1 (.cells #[.string (tx L), .bool false] 58)).alloc (by simp; omega) (.cells #[.slice A L.length cap, .int .i64 0, .bool false] 29))
  obtain ⟨R, hR⟩ : ∃ R, w1.heap.size = R := ⟨_, rfl⟩
  rw [hR] at HRD HDC hw1
  rw [hR]
  clear hR
  go_loopw [20] (fun i wr => ∃ (k : Nat) (s : St), i = .int .i64 k ∧ k ≤ Z.length ∧ Hid (Rdr wr R s) ∧ Hid (DocS w.heap.size wr (R + 1) (.slice A L.length cap) L s) ∧ Hid (Below w.heap.size w wr)) (fun i _ => Z.length - (intOf i).toNat)
  case atStart => exact ⟨0, (L, false), rfl, Nat.zero_le _, HRD, HDC, HB0⟩
  case round =>
    obtain ⟨k, s, rfl, hk, HR2, HD2, HB2⟩ := hrel
    by_cases hlt : k < Z.length
    · obtain ⟨z, hzz⟩ : ∃ z, Z[k]? = some z := ⟨_, List.getElem?_eq_getElem hlt⟩
      obtain ⟨b, o, rfl, hbl, hcw⟩ := rdI_at HZ.out hzz
      have hcell := (HB2.out.cell (p := ⟨b, o + k, none⟩) hbl).trans hcw
      clear hcw hzz
      by_cases h200 : k = 200
      · have t1 : ((k : Int) == 200) = true := by rw [beq_iff_eq]; omega
        clear h200
        go_wp2_with fail
        go_ret
        exact ⟨rfl, HB2.out⟩
      have t1 : ((k : Int) == 200) = false := by rw [beq_eq_false_iff_ne]; omega
      clear h200
      rcases Nat.mod_two_eq_zero_or_one k with hm | hm
      · have t2 : ((k : Int) % 2 == 0) = true := by rw [beq_iff_eq]; omega
        clear hm
        obtain ⟨S2, hS2⟩ : ∃ S2, numS s z = S2 := ⟨_, rfl⟩
        have HS2 := lhid hS2
        clear hS2
        go_wp2_with fail
        with_reducible refine (num_any R s z _ HR2.out).mono ?_
        rintro e w2 ⟨rfl, hr, ho⟩
        rw [HS2.out] at hr
        have HR3 := lhid hr
        have HD3 := lhid (HD2.out.keep ho (by omega) hw1)
        have HB3 := lhid (HB2.out.trans (ho.below hw1 HB2.out.size))
        clear hr ho
        go_wp2_with fail
        with_reducible refine (refNum_any w.heap.size (R + 1) _ L s z _ HD3.out).mono ?_
        rintro e w3 ⟨rfl, hd, ho⟩
        rw [HS2.out] at hd
        have HR4 := lhid (HR3.out.keep ho (by omega))
        have HD4 := lhid hd
        have HB4 := lhid (HB3.out.trans (ho.below (by omega) HB3.out.size))
        clear hd ho
        go_wp2_with fail
        with_reducible refine (left_any R S2 _ HR4.out).mono ?_
        rintro e w4 ⟨rfl, q, rfl⟩
        rw [tx_size]
        have hle := HD4.out.le
        have c0 := HD4.out.doc.c0
        have c1 := HD4.out.doc.c1
        have c2 := HD4.out.doc.c2
        obtain ⟨ln, hln⟩ : ∃ ln, S2.1.length = ln := ⟨_, rfl⟩
        obtain ⟨bd, hbd⟩ : ∃ bd, S2.2 = bd := ⟨_, rfl⟩
        obtain ⟨at_, hat⟩ : ∃ a, L.length - S2.1.length = a := ⟨_, rfl⟩
        rw [hat] at c1
        rw [hbd] at c2 ⊢
        rw [hln] at hle hat ⊢
        have hv : (L.length : Int) - at_ = ln := by omega
        have hv2 : IntKind.i64.wrap ((L.length : Int) - at_) = ln := by rw [IntWalk.i64_in _ (by omega)]; omega
        have hne : ((ln : Int) != ln) = false := by simp
        have heq : ((ln : Int) == ln) = true := by simp
        have hbb : ((!bd) == bd) = false := by cases bd <;> rfl
        clear hle hln hbd hat
        go_wp2_with fail
        go_quiet (fail)
        clear hv hv2 hne heq hbb c0 c1 c2
        go_wp2_with fail
        go_roundw
        case rel => exact ⟨k + 1, S2, by go_num, by omega, lhid (HR4.out.drewN _), lhid (HD4.out.drewN _), lhid (below_drewN HB4.out _)⟩
        case measure => simp [intOf]; omega
      · have t2 : ((k : Int) % 2 == 0) = false := by rw [beq_eq_false_iff_ne]; omega
        clear hm
        obtain ⟨S2, hS2⟩ : ∃ S2, takeS s z = S2 := ⟨_, rfl⟩
        have HS2 := lhid hS2
        clear hS2
        go_wp2_with fail
        with_reducible refine (take_any R s z _ HR2.out).mono ?_
        rintro e w2 ⟨rfl, hr, ho⟩
        rw [HS2.out] at hr
        have HR3 := lhid hr
        have HD3 := lhid (HD2.out.keep ho (by omega) hw1)
        have HB3 := lhid (HB2.out.trans (ho.below hw1 HB2.out.size))
        clear hr ho
        go_wp2_with fail
        with_reducible refine (refTake_any w.heap.size (R + 1) _ L s z _ HD3.out).mono ?_
        rintro e w3 ⟨rfl, hd, ho⟩
        rw [HS2.out] at hd
        have HR4 := lhid (HR3.out.keep ho (by omega))
        have HD4 := lhid hd
        have HB4 := lhid (HB3.out.trans (ho.below (by omega) HB3.out.size))
        clear hd ho
        go_wp2_with fail
        with_reducible refine (left_any R S2 _ HR4.out).mono ?_
        rintro e w4 ⟨rfl, q, rfl⟩
        rw [tx_size]
        have hle := HD4.out.le
        have c0 := HD4.out.doc.c0
        have c1 := HD4.out.doc.c1
        have c2 := HD4.out.doc.c2
        obtain ⟨ln, hln⟩ : ∃ ln, S2.1.length = ln := ⟨_, rfl⟩
        obtain ⟨bd, hbd⟩ : ∃ bd, S2.2 = bd := ⟨_, rfl⟩
        obtain ⟨at_, hat⟩ : ∃ a, L.length - S2.1.length = a := ⟨_, rfl⟩
        rw [hat] at c1
        rw [hbd] at c2 ⊢
        rw [hln] at hle hat ⊢
        have hv : (L.length : Int) - at_ = ln := by omega
        have hv2 : IntKind.i64.wrap ((L.length : Int) - at_) = ln := by rw [IntWalk.i64_in _ (by omega)]; omega
        have hne : ((ln : Int) != ln) = false := by simp
        have heq : ((ln : Int) == ln) = true := by simp
        have hbb : ((!bd) == bd) = false := by cases bd <;> rfl
        clear hle hln hbd hat
        go_wp2_with fail
        go_quiet (fail)
        clear hv hv2 hne heq hbb c0 c1 c2
        go_wp2_with fail
        go_roundw
        case rel => exact ⟨k + 1, S2, by go_num, by omega, lhid (HR4.out.drewN _), lhid (HD4.out.drewN _), lhid (below_drewN HB4.out _)⟩
        case measure => simp [intOf]; omega
    · go_wp2_with fail
      go_ret
      exact ⟨rfl, HB2.out⟩
end Go.Proofs.Ytogbieehpppnaaa
