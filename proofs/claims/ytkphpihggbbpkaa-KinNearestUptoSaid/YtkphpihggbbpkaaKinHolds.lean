/- Own, Native, and law 07's holds. -/
import Derived.Test.YtkphpihggbbpkaaKinFits
namespace Go.Proofs.Ytkphpihggbbpkaa
open Go.RowKit Go Go.Maps
set_option linter.unusedVariables false

def omIs (c n d : Bs) (m : Om) : Bool := decide (m.cls = c) && decide (m.name = n) && decide (m.desc = d)
/-- Which of the machine's own methods it is. -/
def natI (c n d : Bs) : Int := match ownM.findIdx? (omIs c n d) with | none => -1 | some i => i
theorem findIdx_at {α : Type} (p : α → Bool) : ∀ (l : List α) (k : Nat) (x : α), l[k]? = some x → p x = true → (∀ y ∈ l.take k, p y = false) → l.findIdx? p = some k
  | [], k, x, h, _, _ => by simp at h
  | a :: l, 0, x, h, hp, _ => by
    simp at h
    subst h
    rw [List.findIdx?_cons, hp]
    rfl
  | a :: l, k + 1, x, h, hp, hn => by
    rw [List.findIdx?_cons, hn a (by simp)]
    have := findIdx_at p l k x (by simpa using h) hp (fun y hy => hn y (by simp [hy]))
    simp [this]
set_option maxHeartbeats 8000000 in
set_option maxRecDepth 100000 in
theorem native_any (c n d : Bs) (w : World) :
    Calls Try.prog 16 #[.string (tx c), .string (tx n), .string (tx d)] w fun e w' => e = .returned (.int .i64 (natI c n d)) ∧ Below w.heap.size w w' := by
  go_enter Try.func16, Try.ntmps16
  go_wp2_with fail
  with_reducible refine (ownMethods_any _).mono ?_
  rintro e w1 ⟨v1, rfl, hv, hb⟩
  obtain ⟨A, c1, rfl⟩ := hv.shape
  have H := lhid hv
  have HB1 := lhid hb
  have hws := hb.size
  have hlen6 : (ownM.length : Int) = 6 := rfl
  clear hv hb
  go_wp2_with fail
  go_loopw [11] (fun i wr => ∃ kk : Nat, i = .int .i64 kk ∧ kk ≤ ownM.length ∧ Hid (∀ y ∈ ownM.take kk, omIs c n d y = false) ∧ Hid (Below w1.heap.size w1 wr)) (fun i _ => ownM.length - (intOf i).toNat)
  case atStart => exact ⟨0, rfl, Nat.zero_le _, lhid (by simp), lhid (Below.refl _ _)⟩
  case round =>
    obtain ⟨kk, rfl, hkk, HN, HB⟩ := hrel
    have hbs := HB.out.size
    by_cases hlt : kk < ownM.length
    · obtain ⟨x, hx⟩ : ∃ x, ownM[kk]? = some x := ⟨_, List.getElem?_eq_getElem hlt⟩
      have HX := lhid hx
      obtain ⟨ga, oa, cc, rfl, _, hE, hc⟩ := (H.out.below (keptX_om _) HB.out).at' hx
      have hE' : cc = omE x := hE
      subst hE'
      have q0 : wr.cell? ⟨ga, oa + kk * 4, none⟩ = some (.string (tx x.cls)) := hc 0 _ rfl
      have q1 : wr.cell? ⟨ga, oa + kk * 4 + 1, none⟩ = some (.string (tx x.name)) := hc 1 _ rfl
      have q2 : wr.cell? ⟨ga, oa + kk * 4 + 2, none⟩ = some (.string (tx x.desc)) := hc 2 _ rfl
      have q3 : wr.cell? ⟨ga, oa + kk * 4 + 3, none⟩ = some (.int .i64 x.flags) := hc 3 _ rfl
      have k3 : (kk : Int) < ownM.length := by omega
      obtain ⟨r1, h1⟩ : ∃ r, decide (x.cls = c) = r := ⟨_, rfl⟩
      obtain ⟨r2, h2⟩ : ∃ r, decide (x.name = n) = r := ⟨_, rfl⟩
      obtain ⟨r3, h3⟩ : ∃ r, decide (x.desc = d) = r := ⟨_, rfl⟩
      have HI : Hid (omIs c n d x = (r1 && r2 && r3)) := lhid (by unfold omIs; rw [h1, h2, h3])
      have e1 : ((tx x.cls).toList == (tx c).toList) = r1 := by rw [tx_toL, tx_toL, ← h1, Bool.eq_iff_iff]; simp
      have e2 : ((tx x.name).toList == (tx n).toList) = r2 := by rw [tx_toL, tx_toL, ← h2, Bool.eq_iff_iff]; simp
      have e3 : ((tx x.desc).toList == (tx d).toList) = r3 := by rw [tx_toL, tx_toL, ← h3, Bool.eq_iff_iff]; simp
      have HA : Hid (Below w1.heap.size w1 (wr.alloc (.cells #[.string (tx x.cls), .string (tx x.name), .string (tx x.desc), .int .i64 x.flags] 75))) := lhid (HB.out.alloc hbs _)
      clear hx hE hc h1 h2 h3
      cases r1 <;> cases r2 <;> cases r3
      all_goals go_wp2_with fail
      all_goals first
        | (go_ret; exact ⟨by unfold natI; rw [findIdx_at _ ownM kk x HX.out (by rw [HI.out]; rfl) HN.out]; rfl, HB1.out.trans (Below.less HA.out hws)⟩)
        | (go_roundw
           case rel => exact ⟨kk + 1, by go_num, by omega, lhid (fun y hy => by
             rw [List.take_add_one, HX.out] at hy
             rcases List.mem_append.1 hy with hy | hy
             · exact HN.out y hy
             · simp at hy
               rw [hy, HI.out]
               rfl), HA⟩
           case measure => simp [intOf]; omega)
    · have k3 : ¬ (kk : Int) < ownM.length := by omega
      have e : kk = ownM.length := by omega
      subst e
      have hn := HN.out
      rw [List.take_length] at hn
      have HNN : Hid (natI c n d = -1) := lhid (by
        unfold natI
        rw [List.findIdx?_eq_none_iff.2 (fun y hy => hn y hy)])
      clear hn
      go_wp2_with fail
      go_ret
      exact ⟨by rw [HNN.out]; rfl, HB1.out.trans (Below.less HB.out hws)⟩
end Go.Proofs.Ytkphpihggbbpkaa
