/- Contracts of the document's Writes and Needs. -/
import Derived.Test.YtfpnipclhcokmaaInsFree0
import Derived.Test.YtfpnipclhcokmaaInsInts
namespace Go.Proofs.Ytfpnipclhcokmaa
open Go.RowKit Go
set_option linter.unusedVariables false
set_option linter.unusedSimpArgs false

set_option maxHeartbeats 4000000 in
set_option maxRecDepth 100000 in
theorem rwrites_any (c : Int) (w : World) :
    Calls Try.prog 30 #[.int .i64 c] w fun e w' => e = .returned (.bool (wrB c)) ∧ Below w.heap.size w w' := by
  have HF : ∀ w, Hid (Calls Try.prog 35 #[.int .i64 c] w fun e w' => e = .returned (.string (tx (rowT c))) ∧ Below w.heap.size w w') := fun w => lhid (rrow_any c w)
  have hd := wr_row c
  generalize wrB c = z at *
  generalize rowT c = rw' at *
  rcases hd with ⟨rfl, rfl⟩ | ⟨s0, s1, s2, s3, rfl, hz⟩
  · go_enter Try.func30, Try.ntmps30
    go_wp2_with fail
    with_reducible refine (HF _).out.mono ?_
    rintro e w1 ⟨rfl, hb⟩
    have HB := lhid hb
    clear hb
    have q0 := tx_nil
    go_wp2_with fail
    go_ret
    exact ⟨rfl, HB.out⟩
  · obtain ⟨sv, hsv⟩ : ∃ sv, tx [s0, s1, s2, s3] = sv := ⟨_, rfl⟩
    have b0 : 0 < sv.size := by rw [← hsv, tx_size]; simp
    have e0 : sv[0] = s0 := by subst hsv; rfl
    have q1 : (sv.toList == ([] : Bs)) = false := by rw [← hsv, tx_toL]; rfl
    have q2 : sv.toList.isEmpty = false := by rw [← hsv, tx_toL]; rfl
    have q4 : ¬ sv.toList = [] := by rw [← hsv, tx_toL]; simp
    have key : (sv[0].toNat : Int) = 45 ∧ z = false ∨ ¬ (sv[0].toNat : Int) = 45 ∧ z = true := by
      rw [e0, hz]
      by_cases h : s0 = 45
      · exact .inl (by rw [h]; exact ⟨rfl, rfl⟩)
      · refine .inr ⟨fun e => h ?_, by simp [h]⟩
        apply UInt8.toNat_inj.1
        exact_mod_cast e
    rw [hsv] at HF
    clear e0 hsv hz
    rcases key with ⟨t0, rfl⟩ | ⟨t0, rfl⟩
    all_goals
      go_enter Try.func30, Try.ntmps30
      go_wp2_with fail
      with_reducible refine (HF _).out.mono ?_
      rintro e w1 ⟨rfl, hb⟩
      have HB := lhid hb
      clear hb
      go_wp2_with fail
      go_ret
      exact ⟨ret_bool (by simp [t0]), HB.out⟩
/-- The last sign that isn't a dash, among the first j. -/
def lastN (s : Bs) : Nat → Nat
  | 0 => 0
  | j + 1 => if s.getD j 45 = 45 ∨ j = 0 then lastN s j else j
def rowV (c : Int) : Bs := if c = 5 then [42, 42, 42, 45] else if c = 6 then [42, 42, 45, 45] else rowT c
theorem need_row (c : Int) : needN c = if callsB c then 0 else lastN (rowV c) (rowV c).length := by
  refine all_ops (Q := fun c => needN c = if callsB c then 0 else lastN (rowV c) (rowV c).length) (by decide +kernel) (fun c hc => ?_) c
  have h5 : ¬ c = 5 := by omega
  have h6 : ¬ c = 6 := by omega
  rw [(out_of c hc).2.2.1]
  unfold needN rowV
  rw [(out_of c hc).1, if_neg h5, if_neg h6, (out_of c hc).2.2.2.2.2.2.2.2]
  rfl
def nj (cb p1 p2 p3 : Bool) (j : Nat) : Int := if cb then 0 else if 3 < j ∧ p3 = false then 3 else if 2 < j ∧ p2 = false then 2 else if 1 < j ∧ p1 = false then 1 else 0
set_option maxHeartbeats 4000000 in
set_option maxRecDepth 100000 in
theorem rneeds_o (c : Int) (cb p1 p2 p3 : Bool) (sv : ByteArray) (hz : sv.size = 4) (b1 : 1 < sv.size) (b2 : 2 < sv.size) (b3 : 3 < sv.size) (w : World) (n5 : (c == 5) = false) (n6 : (c == 6) = false)
    (HP1 : Hid (p1 = true ↔ (sv[1].toNat : Int) = 45)) (HP2 : Hid (p2 = true ↔ (sv[2].toNat : Int) = 45)) (HP3 : Hid (p3 = true ↔ (sv[3].toNat : Int) = 45))
    (HCa : ∀ w, Hid (Calls Try.prog 15 #[.int .i64 c] w fun e w' => e = .returned (.bool cb) ∧ w = w'))
    (HR : ∀ w, Hid (Calls Try.prog 35 #[.int .i64 c] w fun e w' => e = .returned (.string sv) ∧ Below w.heap.size w w')) :
    Calls Try.prog 31 #[.int .i64 c] w fun e w' => e = .returned (.int .i64 (nj cb p1 p2 p3 4)) ∧ Below w.heap.size w w' := by
  go_enter Try.func31, Try.ntmps31
  go_wp2_with fail
  with_reducible refine (HR _).out.mono ?_
  rintro e w2 ⟨rfl, hb⟩
  have HB2 := lhid hb
  clear hb
  go_wp2_with fail
  go_loopw [4, 5] (fun v i wr => ∃ j : Nat, v = .int .i64 (nj cb p1 p2 p3 j) ∧ i = .int .i64 j ∧ 1 ≤ j ∧ j ≤ 4 ∧ Hid (Below w.heap.size w wr)) (fun _ i _ => 4 - (intOf i).toNat)
  case atStart => exact ⟨1, by unfold nj; simp, rfl, by omega, by omega, HB2⟩
  case round =>
    obtain ⟨j, rfl, rfl, hj0, hj, HB⟩ := hrel
    have hj4 : j = 1 ∨ j = 2 ∨ j = 3 ∨ j = 4 := by omega
    rcases hj4 with rfl | rfl | rfl | rfl
    · by_cases t : (sv[1].toNat : Int) = 45
      · have HP : Hid (p1 = true) := lhid (HP1.out.2 t)
        have HJ : Hid (nj cb p1 p2 p3 2 = nj cb p1 p2 p3 1) := lhid (by unfold nj; rw [HP.out]; simp)
        go_wp2_with fail
        go_roundw
        case rel => exact ⟨2, by rw [HJ.out], rfl, by omega, by omega, HB⟩
        case measure => simp [intOf]
      · have HP : Hid (p1 = false) := lhid (by cases hp : p1 with | false => rfl | true => exact absurd (HP1.out.1 hp) t)
        cases cb with
        | true =>
          have HJ : Hid (nj true p1 p2 p3 2 = nj true p1 p2 p3 1) := lhid (by unfold nj; simp)
          go_wp2_with fail
          with_reducible refine (HCa _).out.mono ?_
          rintro e w3 ⟨rfl, rfl⟩
          go_wp2_with fail
          go_roundw
          case rel => exact ⟨2, by rw [HJ.out], rfl, by omega, by omega, HB⟩
          case measure => simp [intOf]
        | false =>
          have HJ : Hid (nj false p1 p2 p3 2 = 1) := lhid (by unfold nj; rw [HP.out]; simp)
          go_wp2_with fail
          with_reducible refine (HCa _).out.mono ?_
          rintro e w3 ⟨rfl, rfl⟩
          go_wp2_with fail
          go_roundw
          case rel => exact ⟨2, by rw [HJ.out], rfl, by omega, by omega, HB⟩
          case measure => simp [intOf]
    · by_cases t : (sv[2].toNat : Int) = 45
      · have HP : Hid (p2 = true) := lhid (HP2.out.2 t)
        have HJ : Hid (nj cb p1 p2 p3 3 = nj cb p1 p2 p3 2) := lhid (by unfold nj; rw [HP.out]; simp)
        go_wp2_with fail
        go_roundw
        case rel => exact ⟨3, by rw [HJ.out], rfl, by omega, by omega, HB⟩
        case measure => simp [intOf]
      · have HP : Hid (p2 = false) := lhid (by cases hp : p2 with | false => rfl | true => exact absurd (HP2.out.1 hp) t)
        cases cb with
        | true =>
          have HJ : Hid (nj true p1 p2 p3 3 = nj true p1 p2 p3 2) := lhid (by unfold nj; simp)
          go_wp2_with fail
          with_reducible refine (HCa _).out.mono ?_
          rintro e w3 ⟨rfl, rfl⟩
          go_wp2_with fail
          go_roundw
          case rel => exact ⟨3, by rw [HJ.out], rfl, by omega, by omega, HB⟩
          case measure => simp [intOf]
        | false =>
          have HJ : Hid (nj false p1 p2 p3 3 = 2) := lhid (by unfold nj; rw [HP.out]; simp)
          go_wp2_with fail
          with_reducible refine (HCa _).out.mono ?_
          rintro e w3 ⟨rfl, rfl⟩
          go_wp2_with fail
          go_roundw
          case rel => exact ⟨3, by rw [HJ.out], rfl, by omega, by omega, HB⟩
          case measure => simp [intOf]
    · by_cases t : (sv[3].toNat : Int) = 45
      · have HP : Hid (p3 = true) := lhid (HP3.out.2 t)
        have HJ : Hid (nj cb p1 p2 p3 4 = nj cb p1 p2 p3 3) := lhid (by unfold nj; rw [HP.out]; simp)
        go_wp2_with fail
        go_roundw
        case rel => exact ⟨4, by rw [HJ.out], rfl, by omega, by omega, HB⟩
        case measure => simp [intOf]
      · have HP : Hid (p3 = false) := lhid (by cases hp : p3 with | false => rfl | true => exact absurd (HP3.out.1 hp) t)
        cases cb with
        | true =>
          have HJ : Hid (nj true p1 p2 p3 4 = nj true p1 p2 p3 3) := lhid (by unfold nj; simp)
          go_wp2_with fail
          with_reducible refine (HCa _).out.mono ?_
          rintro e w3 ⟨rfl, rfl⟩
          go_wp2_with fail
          go_roundw
          case rel => exact ⟨4, by rw [HJ.out], rfl, by omega, by omega, HB⟩
          case measure => simp [intOf]
        | false =>
          have HJ : Hid (nj false p1 p2 p3 4 = 3) := lhid (by unfold nj; rw [HP.out]; simp)
          go_wp2_with fail
          with_reducible refine (HCa _).out.mono ?_
          rintro e w3 ⟨rfl, rfl⟩
          go_wp2_with fail
          go_roundw
          case rel => exact ⟨4, by rw [HJ.out], rfl, by omega, by omega, HB⟩
          case measure => simp [intOf]
    · go_wp2_with fail
      go_ret
      exact ⟨rfl, HB.out⟩
set_option maxHeartbeats 4000000 in
set_option maxRecDepth 100000 in
theorem rneeds_5 (sv : ByteArray) (w : World)
    (HCa : ∀ w, Hid (Calls Try.prog 15 #[.int .i64 5] w fun e w' => e = .returned (.bool false) ∧ w = w'))
    (HR : ∀ w, Hid (Calls Try.prog 35 #[.int .i64 5] w fun e w' => e = .returned (.string sv) ∧ Below w.heap.size w w')) :
    Calls Try.prog 31 #[.int .i64 5] w fun e w' => e = .returned (.int .i64 2) ∧ Below w.heap.size w w' := by
  go_enter Try.func31, Try.ntmps31
  go_wp2_with fail
  with_reducible refine (HR _).out.mono ?_
  rintro e w2 ⟨rfl, hb⟩
  have HB2 := lhid hb
  clear hb
  go_wp2_with fail
  go_loopw [4, 5] (fun v i wr => ∃ j : Nat, v = .int .i64 (if j = 1 then 0 else if j = 2 then 1 else if j = 3 then 2 else 2) ∧ i = .int .i64 j ∧ 1 ≤ j ∧ j ≤ 4 ∧ Hid (Below w.heap.size w wr)) (fun _ i _ => 4 - (intOf i).toNat)
  case atStart => exact ⟨1, rfl, rfl, by omega, by omega, HB2⟩
  case round =>
    obtain ⟨j, rfl, rfl, hj0, hj, HB⟩ := hrel
    have hj4 : j = 1 ∨ j = 2 ∨ j = 3 ∨ j = 4 := by omega
    rcases hj4 with rfl | rfl | rfl | rfl
    · go_wp2_with fail
      with_reducible refine (HCa _).out.mono ?_
      rintro e w3 ⟨rfl, rfl⟩
      go_wp2_with fail
      go_roundw
      case rel => exact ⟨2, rfl, rfl, by omega, by omega, HB⟩
      case measure => simp [intOf]
    · go_wp2_with fail
      with_reducible refine (HCa _).out.mono ?_
      rintro e w3 ⟨rfl, rfl⟩
      go_wp2_with fail
      go_roundw
      case rel => exact ⟨3, rfl, rfl, by omega, by omega, HB⟩
      case measure => simp [intOf]
    · go_wp2_with fail
      go_roundw
      case rel => exact ⟨4, rfl, rfl, by omega, by omega, HB⟩
      case measure => simp [intOf]
    · go_wp2_with fail
      go_ret
      exact ⟨rfl, HB.out⟩
set_option maxHeartbeats 4000000 in
set_option maxRecDepth 100000 in
theorem rneeds_6 (sv : ByteArray) (w : World)
    (HCa : ∀ w, Hid (Calls Try.prog 15 #[.int .i64 6] w fun e w' => e = .returned (.bool false) ∧ w = w'))
    (HR : ∀ w, Hid (Calls Try.prog 35 #[.int .i64 6] w fun e w' => e = .returned (.string sv) ∧ Below w.heap.size w w')) :
    Calls Try.prog 31 #[.int .i64 6] w fun e w' => e = .returned (.int .i64 1) ∧ Below w.heap.size w w' := by
  go_enter Try.func31, Try.ntmps31
  go_wp2_with fail
  with_reducible refine (HR _).out.mono ?_
  rintro e w2 ⟨rfl, hb⟩
  have HB2 := lhid hb
  clear hb
  go_wp2_with fail
  go_loopw [4, 5] (fun v i wr => ∃ j : Nat, v = .int .i64 (if j = 1 then 0 else if j = 2 then 1 else if j = 3 then 1 else 1) ∧ i = .int .i64 j ∧ 1 ≤ j ∧ j ≤ 4 ∧ Hid (Below w.heap.size w wr)) (fun _ i _ => 4 - (intOf i).toNat)
  case atStart => exact ⟨1, rfl, rfl, by omega, by omega, HB2⟩
  case round =>
    obtain ⟨j, rfl, rfl, hj0, hj, HB⟩ := hrel
    have hj4 : j = 1 ∨ j = 2 ∨ j = 3 ∨ j = 4 := by omega
    rcases hj4 with rfl | rfl | rfl | rfl
    · go_wp2_with fail
      with_reducible refine (HCa _).out.mono ?_
      rintro e w3 ⟨rfl, rfl⟩
      go_wp2_with fail
      go_roundw
      case rel => exact ⟨2, rfl, rfl, by omega, by omega, HB⟩
      case measure => simp [intOf]
    · go_wp2_with fail
      go_roundw
      case rel => exact ⟨3, rfl, rfl, by omega, by omega, HB⟩
      case measure => simp [intOf]
    · go_wp2_with fail
      go_roundw
      case rel => exact ⟨4, rfl, rfl, by omega, by omega, HB⟩
      case measure => simp [intOf]
    · go_wp2_with fail
      go_ret
      exact ⟨rfl, HB.out⟩
theorem rneeds_any (c : Int) (w : World) :
    Calls Try.prog 31 #[.int .i64 c] w fun e w' => e = .returned (.int .i64 (needN c : Int)) ∧ Below w.heap.size w w' := by
  have HCa : ∀ w, Hid (Calls Try.prog 15 #[.int .i64 c] w fun e w' => e = .returned (.bool (callsB c)) ∧ w = w') := fun w => lhid (rcalls_any c w)
  have HR : ∀ w, Hid (Calls Try.prog 35 #[.int .i64 c] w fun e w' => e = .returned (.string (tx (rowT c))) ∧ Below w.heap.size w w') := fun w => lhid (rrow_any c w)
  by_cases h5 : c = 5
  · subst h5
    exact rneeds_5 _ w HCa HR
  by_cases h6 : c = 6
  · subst h6
    exact rneeds_6 _ w HCa HR
  have g5 : (c == 5) = false := by rw [beq_eq_false_iff_ne]; exact h5
  have g6 : (c == 6) = false := by rw [beq_eq_false_iff_ne]; exact h6
  have hn := need_row c
  have hv : rowV c = rowT c := by unfold rowV; rw [if_neg h5, if_neg h6]
  rw [hv] at hn
  rcases wr_row c with ⟨he, _⟩ | ⟨s0, s1, s2, s3, he, _⟩
  · have hn0 : needN c = 0 := by
      rw [hn, he]
      split <;> rfl
    rw [hn0]
    rw [he] at HR
    clear hn hv he h5 h6 hn0
    go_enter Try.func31, Try.ntmps31
    go_wp2_with fail
    with_reducible refine (HR _).out.mono ?_
    rintro e w2 ⟨rfl, hb⟩
    have HB2 := lhid hb
    have q0 := tx_nil
    clear hb
    go_wp2_with fail
    go_loopw [4, 5] (fun x i wr => x = .int .i64 0 ∧ i = .int .i64 1 ∧ Hid (Below w.heap.size w wr)) (fun _ i _ => 0)
    case atStart => exact ⟨rfl, rfl, HB2⟩
    case round =>
      obtain ⟨rfl, rfl, HB⟩ := hrel
      go_wp2_with fail
      go_ret
      exact ⟨rfl, HB.out⟩
  · rw [he] at HR hn
    have e45 : ∀ s : UInt8, (decide (s = 45) = true ↔ (s.toNat : Int) = 45) := fun s => by
      rw [decide_eq_true_eq]
      constructor
      · rintro rfl; rfl
      · intro h
        apply UInt8.toNat_inj.1
        exact_mod_cast h
    have hfin : ((needN c : Nat) : Int) = nj (callsB c) (decide (s1 = 45)) (decide (s2 = 45)) (decide (s3 = 45)) 4 := by
      rw [hn]
      unfold nj
      cases callsB c
      · by_cases h1 : s1 = 45 <;> by_cases h2 : s2 = 45 <;> by_cases h3 : s3 = 45 <;> simp [lastN, h1, h2, h3]
      · rfl
    rw [hfin]
    exact rneeds_o c (callsB c) _ _ _ (tx [s0, s1, s2, s3]) (by rw [tx_size]; rfl) (by rw [tx_size]; simp) (by rw [tx_size]; simp) (by rw [tx_size]; simp) w g5 g6 (lhid (e45 s1)) (lhid (e45 s2)) (lhid (e45 s3)) HCa HR
end Go.Proofs.Ytfpnipclhcokmaa
