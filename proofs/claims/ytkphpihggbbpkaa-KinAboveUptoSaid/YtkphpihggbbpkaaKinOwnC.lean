/- The machine's own classes as a list. -/
import Derived.Test.YtkphpihggbbpkaaKinOwn
import Derived.Test.YtkphpihggbbpkaaKinName
namespace Go.Proofs.Ytkphpihggbbpkaa
open Go.RowKit Go
set_option linter.unusedVariables false

set_option maxHeartbeats 16000000 in
set_option maxRecDepth 100000 in
theorem ownClasses_any (w : World) :
    Calls Try.prog 21 #[] w fun e w' => ∃ v, e = .returned v ∧ RdX (fun g => w.heap.size ≤ g) 7 (ClE fun g => w.heap.size ≤ g) w' v ownL ∧ Below w.heap.size w w' := by
  have HC0 := lhid (own_cells (fun b => w.heap.size < b) w)
  have HB0 : Hid (Below w.heap.size w (w.alloc (.cells (own0.flatMap c0E).toArray 35))) := lhid ((Below.refl _ _).alloc (Nat.le_refl _) _)
  go_enter Try.func21, Try.ntmps21
  go_wp2_with fail
  go_loopw [20] (fun i wr => ∃ kk : Nat, i = .int .i64 kk ∧ kk ≤ 13 ∧ Hid (CI 35 7 (ClE fun b => w.heap.size < b) wr w.heap.size 13 (own' kk) 13) ∧ Hid (Below w.heap.size w wr)) (fun i _ => 13 - (intOf i).toNat)
  case atStart => exact ⟨0, rfl, Nat.zero_le _, HC0, HB0⟩
  case round =>
    obtain ⟨kk, rfl, hkk, HC, HB⟩ := hrel
    by_cases hlt : kk < 13
    · obtain ⟨x, hx⟩ : ∃ x, own0[kk]? = some x := ⟨_, List.getElem?_eq_getElem hlt⟩
      obtain ⟨ha, hset, hl13⟩ := own'_at kk x hx
      have HAT := lhid ha
      have HSET := lhid hset
      have HL13 := lhid hl13
      obtain ⟨cur, hcur, hcs, hrow⟩ := HC.out
      obtain ⟨cc, hE, hcl, hc0⟩ := hrow kk x hlt ha
      have hc : ∀ j u, cc[j]? = some u → wr.cell? ⟨w.heap.size, kk * 7 + j, none⟩ = some u := fun j u hj => heap_cell hcur (hc0 j u hj)
      have hc1 := row_cl _ _ _ _ hE
      have HE := lhid hE
      have HCL := lhid hc1.1
      have HRA : Hid (wr.rangeAt w.heap.size (kk * 7) cc) := lhid hc
      have HSZ : Hid ((Try.prog.info? 35).map (·.size) = some cc.length) := lhid (by rw [hc1.1]; exact sz_cl)
      have HSA : Hid ((Try.prog.info? 35).map (·.size) = some cc.toArray.size) := lhid (by simpa using HSZ.out)
      have HALL : Hid (cc.toArray.all (·.oneCell') = true) := lhid (all_oneCell_toArray hc1.2)
      have hth : (wr.alloc (.cells #[.int .i64 0, .string ⟨#[]⟩, .string ⟨#[]⟩, .slice none 0 0, .slice none 0 0, .slice none 0 0, .slice none 0 0] 35)).there wr.heap.size 0 7 := fun j hj => ⟨by
        rw [Nat.zero_add, heap_cell (heap_alloc_new wr _) (Array.getElem?_eq_getElem (by simpa using hj))]; rfl, heap_thaw (heap_alloc_new wr _) _⟩
      have HTA : Hid ((wr.alloc (.cells #[.int .i64 0, .string ⟨#[]⟩, .string ⟨#[]⟩, .slice none 0 0, .slice none 0 0, .slice none 0 0, .slice none 0 0] 35)).there wr.heap.size 0 cc.toArray.size) := lhid (by rw [show cc.toArray.size = 7 by simpa using hc1.1]; exact hth)
      have HRB : Hid (((wr.alloc (.cells #[.int .i64 0, .string ⟨#[]⟩, .string ⟨#[]⟩, .slice none 0 0, .slice none 0 0, .slice none 0 0, .slice none 0 0] 35)).setCells wr.heap.size 0 cc).rangeAt wr.heap.size 0 cc) := lhid (World.rangeAt_setCells_same _ _ _ _ (by rw [hc1.1]; exact hth))
      have HW2 : Hid (Below wr.heap.size wr ((wr.alloc (.cells #[.int .i64 0, .string ⟨#[]⟩, .string ⟨#[]⟩, .slice none 0 0, .slice none 0 0, .slice none 0 0, .slice none 0 0] 35)).setCells wr.heap.size 0 cc)) := lhid (below_cells ((Below.refl wr.heap.size wr).alloc (Nat.le_refl _) _) (Nat.le_refl _) _ _)
      have hsz1 : ((wr.alloc (.cells #[.int .i64 0, .string ⟨#[]⟩, .string ⟨#[]⟩, .slice none 0 0, .slice none 0 0, .slice none 0 0, .slice none 0 0] 35)).setCells wr.heap.size 0 cc).heap.size = wr.heap.size + 1 := by rw [setCells_size]; simp
      have HS1 := lhid hsz1
      have k3 : (kk : Int) < 13 := by omega
      have hgs := HC.out.lt
      have hq1 : ((wr.alloc (.cells #[.int .i64 0, .string ⟨#[]⟩, .string ⟨#[]⟩, .slice none 0 0, .slice none 0 0, .slice none 0 0, .slice none 0 0] 35)).setCells wr.heap.size 0 cc).cell? ⟨wr.heap.size, 1, none⟩ = some (.string (tx x.name)) := by
        obtain ⟨a, p, b, d, rfl, _⟩ := hE
        exact HRB.out 1 _ rfl
      clear hx ha hset hl13 hcur hcs hrow hE hcl hc0 hc hc1 hth hsz1
      go_wp2_with (first | (refine wpList_load_mid rfl 35 _ rfl w.heap.size (kk * 7) rfl cc _ HRA.out Try.underlying35 (by rfl) HSZ.out ?_) | (refine wpList_store_mid rfl 35 _ _ rfl wr.heap.size 0 cc.toArray rfl rfl HTA.out HSA.out HALL.out ?_))
      with_reducible refine (methodsOf_any x.name _).mono ?_
      rintro e w2 ⟨v2, xs2, rfl, ho, hr, hb2⟩
      obtain ⟨A2, c2, rfl⟩ := own_shape ho
      have hml : (methO x.name).length ≤ 6 := by
        unfold methO
        rw [List.length_map]
        exact Nat.le_trans (List.length_filter_le _ _) (by decide)
      have hbb : Below wr.heap.size wr w2 := HW2.out.trans (Below.less hb2 (by rw [HS1.out]; omega))
      have HC2 := lhid (HC.out.below (keptX_cl _) hbb)
      have HBN := lhid (HB.out.trans (Below.less hbb HB.out.size))
      have hrd := (rdX_own (E := MeE fun b => w.heap.size < b) ho (by omega) (hr _ _)).any (Q := fun b => w.heap.size < b) (fun g hg => by have h1 := hg.1; have h2 := HB.out.size; rw [HS1.out] at h1; omega)
      have HRD := lhid hrd
      obtain ⟨cur, hcur, hcs, hrow⟩ := HC2.out
      have hoff : kk * 7 + 6 < cur.size := by omega
      obtain ⟨p6, q6⟩ : ∃ u, w2.cell? ⟨w.heap.size, kk * 7 + 6, none⟩ = some u := ⟨_, heap_cell hcur (Array.getElem?_eq_getElem hoff)⟩
      have z6 : w2.frozen? ⟨w.heap.size, kk * 7 + 6, none⟩ = false := heap_thaw hcur _
      clear ho hr hb2 hbb hrd hcur hcs hrow hoff hml hq1
      go_wp2_with fail
      go_roundw
      case rel => exact ⟨kk + 1, by go_num, by omega, lhid (by
        have := HC2.out.cell (keptX_cl _) (fun b hb => by omega) (by rw [HL13.out]; omega) HAT.out (show 6 < 7 by omega) (v := .slice A2 (methO x.name).length c2) (a' := withM x) (fun c hc hcl => by
          obtain ⟨a, p, b, d, rfl, h1, h2, h3, h4⟩ := hc
          exact ⟨a, p, b, _, rfl, h1, h2, h3, HRD.out⟩)
        rw [HSET.out] at this
        exact this), lhid (HBN.out.setCell (Nat.le_refl _) _)⟩
      case measure => simp [intOf]; omega
    · have k3 : ¬ (kk : Int) < 13 := by omega
      have e : kk = 13 := by omega
      subst e
      go_wp2_with fail
      go_ret
      exact ⟨_, rfl, (CI.done (l := ownL) HC.out (Nat.le_refl _) (clE_mono fun b hb _ => Nat.le_of_lt hb) (by decide)), HB.out⟩
end Go.Proofs.Ytkphpihggbbpkaa
