/- The walk of PoolRuns. -/
import Derived.Test.YtogbieehpppnaaaPoolLaw1
namespace Go.Proofs.Ytogbieehpppnaaa
open Go.RowKit Go
set_option linter.unusedVariables false

theorem same_any (g g2 : Nat) (l : List Con) (w : World) (hn : Hid (l.length ≤ 1000)) (h1 : Hid (RowsAt w g 48 5 (l.map conV))) (h2 : Hid (RowsAt w g2 48 5 (l.map conV))) :
    Calls Try.prog 17 #[.slice (some ⟨g, 0, none⟩) l.length l.length, .slice (some ⟨g2, 0, none⟩) l.length l.length] w fun e w' => e = .returned (.bool true) ∧ ∃ n, w' = w.drewN n :=
  same_rows g g2 l w l.length hn.out rfl h1.out h2.out
set_option maxHeartbeats 4000000 in
set_option maxRecDepth 100000 in
theorem PoolRuns_walk (v : Value) (L : Bs) (w : World) (h : RdB w v L) :
    Calls Try.prog 4 #[v] w fun e w' => e = .returned (.bool true) ∧ Below w.heap.size w w' := by
  have HLOW := lhid (rdB_low h)
  have HR := lhid h
  obtain ⟨A, cap, rfl, hlm⟩ := rdB_form h
  unfold maxLen at hlm
  clear h
  obtain ⟨x, hx⟩ : ∃ x, poolX (L, false) = x := ⟨_, rfl⟩
  obtain ⟨l, hl⟩ : ∃ l, poolL (L, false) = l := ⟨_, rfl⟩
  obtain ⟨S, hS⟩ : ∃ S, poolS (L, false) = S := ⟨_, rfl⟩
  have HX := lhid hx
  have HL := lhid hl
  have HS := lhid hS
  clear hl hS
  go_enter Try.func4, Try.ntmps4
  go_wp2_with fail
  with_reducible refine (holds_any _).mono ?_
  rintro e w1 ⟨rfl, hw⟩
  have HW := lhid hw
  have HR1 := lhid (rdB_below HR.out HLOW.out hw)
  have hw1 := hw.size
  clear hw
  go_wp2_with fail
  with_reducible refine (from_any _ L _ HR1.out).mono ?_
  rintro e w2 ⟨rfl, rfl⟩
  go_wp2_with fail
  have HRD : Hid (Rdr ((w1.alloc (.cells #[.string (tx L), .bool false] 58)).alloc (.cells #[.slice A L.length cap, .int .i64 0, .bool false] 29)) w1.heap.size (L, false)) := lhid (new_one w1 _ _)
  have HDC : Hid (DocS w.heap.size ((w1.alloc (.cells #[.string (tx L), .bool false] 58)).alloc (.cells #[.slice A L.length cap, .int .i64 0, .bool false] 29)) (w1.heap.size + 1) (.slice A L.length cap) L (L, false)) := lhid (by
    have := docS_new (B := w.heap.size) (w := w1.alloc (.cells #[.string (tx L), .bool false] 58)) (rdB_below HR1.out HLOW.out ((Below.refl w.heap.size w1).alloc hw1 _)) HLOW.out (by simp; omega)
    rwa [World.size_alloc] at this)
  have HB0 := lhid ((HW.out.alloc hw1 (.cells #[.string (tx L), .bool false] 58)).alloc (by simp; omega) (.cells #[.slice A L.length cap, .int .i64 0, .bool false] 29))
  by_cases hx0 : x = 0
  · subst hx0
    have HLL := lhid (by rw [← HL.out]; exact poolL_len _ HX.out : l.length ≤ 1000)
    with_reducible refine (read_ok _ (L, false) l _ HRD HX HL).mono ?_
    rintro e w3 ⟨⟨g, rfl, hg, hrows⟩, hr, ho⟩
    rw [HS.out] at hr
    have HG := lhid hrows
    have HR3 := lhid hr
    have HD3 := lhid (HDC.out.keep ho (by omega) hw1)
    have HB3 := lhid (HB0.out.trans (ho.below hw1 (by simp; omega)))
    have hgm : g ≠ w1.heap.size + 1 := by simp at hg; omega
    clear hr ho hrows hg
    go_wp2_with fail
    with_reducible refine (refRead_ok w.heap.size _ _ L (L, false) l _ HD3 HX HL).mono ?_
    rintro e w4 ⟨⟨g2, rfl, hg2, hrows⟩, hd, ho⟩
    rw [HS.out] at hd
    have HG2 := lhid hrows
    have HG1 := lhid (HG.out.keep ho hgm)
    have HR4 := lhid (HR3.out.keep ho (by omega))
    have HD4 := lhid hd
    have HB4 := lhid (HB3.out.trans (ho.below (by omega) HB3.out.size))
    clear ho hrows hd hg2
    go_wp2_with fail
    with_reducible refine (same_any g g2 l _ HLL HG1 HG2).mono ?_
    rintro e w5 ⟨rfl, q, rfl⟩
    go_wp2_with fail
    with_reducible refine (left_any _ S _ (HR4.out.drewN q)).mono ?_
    rintro e w5 ⟨rfl, q2, rfl⟩
    have hle := HD4.out.le
    have c1 := HD4.out.doc.c1
    have hsz : (tx S.1).size = S.1.length := tx_size _
    have hv : IntKind.i64.wrap ((L.length : Int) - ((L.length - S.1.length : Nat) : Int)) = S.1.length := by rw [IntWalk.i64_in _ (by omega)]; omega
    have hv2 : wrap64 ((L.length : Int) - ((L.length - S.1.length : Nat) : Int)) = S.1.length := by rw [IntWalk.wrap64_in _ (by omega)]; omega
    have hv3 : ((L.length : Int) - ((L.length - S.1.length : Nat) : Int)) = S.1.length := by omega
    rw [hsz]
    clear hsz
    go_wp2_with fail
    go_ret
    exact ⟨rfl, below_drewN HB4.out (q + q2)⟩
  · have hx1 : ((x : Int) != 0) = true := by rw [bne_iff_ne]; omega
    have hx2 : ((x : Int) == 0) = false := by rw [beq_eq_false_iff_ne]; omega
    have hx3 : ((x : Int) != x) = false := by simp
    have HX0 := lhid hx0
    clear hx0 hx
    with_reducible refine (read_err _ (L, false) x _ HRD HX HX0.out).mono ?_
    rintro e w3 ⟨rfl, hr, ho⟩
    rw [HS.out] at hr
    have HR3 := lhid hr
    have HD3 := lhid (HDC.out.keep ho (by omega) hw1)
    have HB3 := lhid (HB0.out.trans (ho.below hw1 (by simp; omega)))
    clear hr ho
    go_wp2_with fail
    with_reducible refine (refRead_err w.heap.size _ _ L (L, false) x _ HD3 HX HX0.out).mono ?_
    rintro e w4 ⟨rfl, hd, ho⟩
    rw [HS.out] at hd
    have HR4 := lhid (HR3.out.keep ho (by omega))
    have HB4 := lhid (HB3.out.trans (ho.below (by omega) HB3.out.size))
    clear ho hd
    go_wp2_with fail
    with_reducible refine (same_nil _).mono ?_
    rintro e w5 ⟨rfl, q, rfl⟩
    go_wp2_with fail
    with_reducible refine (left_any _ S _ (HR4.out.drewN q)).mono ?_
    rintro e w5 ⟨rfl, q2, rfl⟩
    go_wp2_with fail
    go_ret
    exact ⟨rfl, below_drewN HB4.out (q + q2)⟩
end Go.Proofs.Ytogbieehpppnaaa
