/- Names and flags of classes: isMisnamed, isInterface, and who asks them of a list. -/
import Derived.Test.YtkphpihggbbpkaaKinClone
import Derived.Deep.MidRow
namespace Go.Proofs.Ytkphpihggbbpkaa
open Go.RowKit Go
set_option linter.unusedVariables false

/-- Is it an interface? -/
def ifc (c : ClI) : Bool := bits .and .i64 c.flags 512 != 0
theorem name_tx (l : Bs) (r : Bool) (w : World) (h : Hid (nameB l false = r)) (hs : l.length ≤ maxLen) :
    Calls Try.prog 35 #[.string (tx l), .bool false] w fun e w' => e = .returned (.bool r) ∧ w = w' := by
  refine (name_any (tx l) false w (by rw [tx_size]; exact hs)).mono ?_
  rintro e w' ⟨rfl, rfl⟩
  rw [tx_list, h.out]
  exact ⟨rfl, rfl⟩
set_option maxHeartbeats 1000000 in
set_option maxRecDepth 100000 in
theorem isMisnamed_any (c : ClI) (a p b d : Value) (w : World) (hn : c.name.length ≤ maxLen) :
    Calls Try.prog 18 #[.agg #[.int .i64 c.flags, .string (tx c.name), .string (tx c.super), a, p, b, d]] w fun e w' => e = .returned (.bool (!nameB c.name false)) ∧ Below w.heap.size w w' := by
  obtain ⟨r, hr⟩ : ∃ r, nameB c.name false = r := ⟨_, rfl⟩
  have HR := lhid hr
  clear hr
  go_enter Try.func18, Try.ntmps18
  go_wp2_with fail
  with_reducible refine (name_tx c.name r _ HR hn).mono ?_
  rintro e w1 ⟨rfl, rfl⟩
  go_wp2_with fail
  go_ret
  exact ⟨by rw [HR.out]; rfl, (Below.refl _ _).alloc (Nat.le_refl _) _⟩
theorem isMisnamed_cs (P : Nat → Prop) (c : ClI) (cs : List Value) (w : World) (h : Hid (ClE P w c cs)) (hn : c.name.length ≤ maxLen) :
    Calls Try.prog 18 #[.agg cs.toArray] w fun e w' => e = .returned (.bool (!nameB c.name false)) ∧ Below w.heap.size w w' := by
  obtain ⟨a, p, b, d, rfl, _⟩ := h.out
  exact isMisnamed_any c a p b d w hn
set_option maxHeartbeats 1000000 in
set_option maxRecDepth 100000 in
theorem isInterface_any (c : ClI) (a p b d : Value) (w : World) :
    Calls Try.prog 59 #[.agg #[.int .i64 c.flags, .string (tx c.name), .string (tx c.super), a, p, b, d]] w fun e w' => e = .returned (.bool (ifc c)) ∧ Below w.heap.size w w' := by
  obtain ⟨r, hr⟩ : ∃ r, bits .and .i64 c.flags 512 = r := ⟨_, rfl⟩
  have hi : ifc c = (r != 0) := by rw [← hr]; rfl
  have HI := lhid hi
  clear hi
  go_enter Try.func59, Try.ntmps59
  go_wp2_with fail
  go_ret
  exact ⟨by rw [HI.out]; rfl, (Below.refl _ _).alloc (Nat.le_refl _) _⟩
theorem isInterface_cs (P : Nat → Prop) (c : ClI) (cs : List Value) (w : World) (h : Hid (ClE P w c cs)) :
    Calls Try.prog 59 #[.agg cs.toArray] w fun e w' => e = .returned (.bool (ifc c)) ∧ Below w.heap.size w w' := by
  obtain ⟨a, p, b, d, rfl, _⟩ := h.out
  exact isInterface_any c a p b d w
theorem sz_cl : (Try.prog.info? 35).map (·.size) = some 7 := by kernel_rfl
def misB (c : ClI) : Bool := !nameB c.name false
set_option maxHeartbeats 4000000 in
set_option maxRecDepth 100000 in
theorem indexMis_any (P : Nat → Prop) (v : Value) (l : List ClI) (w : World) (h : Hid (RdX P 7 (ClE P) w v l)) (hn : Hid (∀ c ∈ l, c.name.length ≤ maxLen)) :
    Calls Try.prog 34 #[v, .func (.func 18) #[] #[]] w fun e w' => ∃ r : Int, e = .returned (.int .i64 r) ∧ Below w.heap.size w w' ∧ (0 ≤ r ↔ l.any misB = true) := by
  obtain ⟨A, cap, rfl⟩ := h.out.shape
  have hlen := h.out.len
  go_enter Try.func34, Try.ntmps34
  go_wp2_with fail
  go_loopw [8] (fun i wr => ∃ kk : Nat, i = .int .i64 kk ∧ kk ≤ l.length ∧ Hid ((l.take kk).any misB = false) ∧ Hid (Below w.heap.size w wr)) (fun i _ => l.length - (intOf i).toNat)
  case atStart => exact ⟨0, rfl, Nat.zero_le _, lhid (by simp), lhid (Below.refl _ _)⟩
  case round =>
    obtain ⟨kk, rfl, hkk, HM, HB⟩ := hrel
    by_cases hlt : kk < l.length
    · obtain ⟨x, hx⟩ : ∃ x, l[kk]? = some x := ⟨_, List.getElem?_eq_getElem hlt⟩
      have HX := lhid hx
      have HR := lhid (h.out.below (keptX_cl P) HB.out)
      obtain ⟨ga, oa, cc, rfl, _, hE, hc⟩ := HR.out.at' hx
      have hc1 := row_cl P _ _ _ hE
      have HE := lhid hE
      have HRA : Hid (wr.rangeAt ga (oa + kk * 7) cc) := lhid hc
      have HSZ : Hid ((Try.prog.info? 35).map (·.size) = some cc.length) := lhid (by rw [hc1.1]; exact sz_cl)
      have k3 : (kk : Int) < l.length := by omega
      have hnx := hn.out x (List.mem_of_getElem? hx)
      have HNX := lhid hnx
      clear hx hc hE hc1 hnx
      go_wp2_with (refine wpList_load_mid rfl 35 _ rfl ga (oa + kk * 7) rfl cc _ HRA.out Try.underlying35 (by rfl) HSZ.out ?_)
      refine (isMisnamed_cs P x cc _ HE HNX.out).mono ?_
      rintro e w2 ⟨rfl, hb2⟩
      have HB2 := lhid (HB.out.trans (Below.less hb2 HB.out.size))
      have htk : (l.take (kk + 1)).any misB = ((l.take kk).any misB || misB x) := by rw [List.take_add_one, HX.out]; simp
      have HTK := lhid htk
      clear hb2 htk
      cases hm : nameB x.name false with
      | false =>
        have HMX := lhid hm
        clear hm
        go_wp2_with fail
        go_ret
        exact ⟨(kk : Int), rfl, HB2.out, ⟨fun _ => List.any_eq_true.2 ⟨x, List.mem_of_getElem? HX.out, by unfold misB; rw [HMX.out]; rfl⟩, fun _ => by omega⟩⟩
      | true =>
        have HMX := lhid hm
        clear hm
        go_wp2_with fail
        go_roundw
        case rel => exact ⟨kk + 1, by go_num, by omega, lhid (by rw [HTK.out, HM.out]; unfold misB; rw [HMX.out]; rfl), HB2⟩
        case measure => simp [intOf]; omega
    · have k3 : ¬ (kk : Int) < l.length := by omega
      have hm := HM.out
      rw [List.take_of_length_le (by omega)] at hm
      have HM2 := lhid hm
      clear hm HM
      go_wp2_with fail
      go_ret
      exact ⟨-1, rfl, HB.out, ⟨fun h => absurd h (by omega), fun h => by have h2 := List.any_eq_true.2 h; rw [HM2.out] at h2; cases h2⟩⟩
set_option maxHeartbeats 1000000 in
set_option maxRecDepth 100000 in
theorem containsMis_any (P : Nat → Prop) (v : Value) (l : List ClI) (w : World) (h : Hid (RdX P 7 (ClE P) w v l)) (hn : Hid (∀ c ∈ l, c.name.length ≤ maxLen)) :
    Calls Try.prog 17 #[v, .func (.func 18) #[] #[]] w fun e w' => e = .returned (.bool (l.any misB)) ∧ Below w.heap.size w w' := by
  go_enter Try.func17, Try.ntmps17
  go_wp2_with fail
  with_reducible refine (indexMis_any P v l _ h hn).mono ?_
  rintro e w1 ⟨r, rfl, hb, hr⟩
  have HB := lhid hb
  have HR := lhid hr
  clear hb hr
  by_cases h0 : 0 ≤ r
  · go_wp2_with fail
    go_ret
    exact ⟨by rw [HR.out.1 h0]; rfl, HB.out⟩
  · have h1 : r < 0 := by omega
    go_wp2_with fail
    go_ret
    refine ⟨?_, HB.out⟩
    have : l.any misB = false := by
      cases hq : l.any misB with
      | false => rfl
      | true => exact absurd (HR.out.2 hq) (by omega)
    rw [this]
    simp
    omega
end Go.Proofs.Ytkphpihggbbpkaa
