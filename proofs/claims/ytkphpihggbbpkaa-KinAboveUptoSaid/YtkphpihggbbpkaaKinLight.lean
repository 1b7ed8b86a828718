/- light: the lists are short. -/
import Derived.Test.YtkphpihggbbpkaaKinAsk
import Derived.Deep.MidRow
namespace Go.Proofs.Ytkphpihggbbpkaa
open Go.RowKit Go Go.Maps
set_option linter.unusedVariables false

set_option maxHeartbeats 8000000 in
set_option maxRecDepth 100000 in
theorem light_any (P : Nat → Prop) (v : Value) (l : List ClI) (w : World) (h : Hid (RdX P 7 (ClE P) w v l)) :
    Calls Try.prog 7 #[v] w fun e w' => ∃ r : Bool, e = .returned (.bool r) ∧ Below w.heap.size w w' := by
  obtain ⟨A, cap, rfl⟩ := h.out.shape
  have hlen := h.out.len
  go_enter Try.func7, Try.ntmps7
  go_wp2_with fail
  go_loopw [3, 8] (fun s i wr => ∃ (kk : Nat) (n : Int), s = .int .i64 n ∧ i = .int .i64 kk ∧ kk ≤ l.length ∧ Hid (Below w.heap.size w wr)) (fun _ i _ => l.length - (intOf i).toNat)
  case atStart => exact ⟨0, _, rfl, rfl, Nat.zero_le _, lhid (Below.refl _ _)⟩
  case round =>
    obtain ⟨kk, n, rfl, rfl, hkk, HB⟩ := hrel
    have hbs := HB.out.size
    by_cases hlt : kk < l.length
    · obtain ⟨x, hx⟩ : ∃ x, l[kk]? = some x := ⟨_, List.getElem?_eq_getElem hlt⟩
      obtain ⟨ga, oa, cc, rfl, _, hE, hc⟩ := (h.out.below (keptX_cl P) HB.out).at' hx
      have hc1 := row_cl _ _ _ _ hE
      have HCL := lhid hc1.1
      have HRA : Hid (wr.rangeAt ga (oa + kk * 7) cc) := lhid hc
      have HSZ : Hid ((Try.prog.info? 35).map (·.size) = some cc.length) := lhid (by rw [hc1.1]; exact sz_cl)
      have HSA : Hid ((Try.prog.info? 35).map (·.size) = some cc.toArray.size) := lhid (by simpa using HSZ.out)
      have HALL : Hid (cc.toArray.all (·.oneCell') = true) := lhid (all_oneCell_toArray hc1.2)
      have hth : (wr.alloc (.cells #[.int .i64 0, .string ⟨#[]⟩, .string ⟨#[]⟩, .slice none 0 0, .slice none 0 0, .slice none 0 0, .slice none 0 0] 35)).there wr.heap.size 0 7 := fun j hj => ⟨by
        rw [Nat.zero_add, heap_cell (heap_alloc_new wr _) (Array.getElem?_eq_getElem (by simpa using hj))]; rfl, heap_thaw (heap_alloc_new wr _) _⟩
      have HTA : Hid ((wr.alloc (.cells #[.int .i64 0, .string ⟨#[]⟩, .string ⟨#[]⟩, .slice none 0 0, .slice none 0 0, .slice none 0 0, .slice none 0 0] 35)).there wr.heap.size 0 cc.toArray.size) := lhid (by rw [show cc.toArray.size = 7 by simpa using hc1.1]; exact hth)
      have HRB : Hid (((wr.alloc (.cells #[.int .i64 0, .string ⟨#[]⟩, .string ⟨#[]⟩, .slice none 0 0, .slice none 0 0, .slice none 0 0, .slice none 0 0] 35)).setCells wr.heap.size 0 cc).rangeAt wr.heap.size 0 cc) := lhid (World.rangeAt_setCells_same _ _ _ _ (by rw [hc1.1]; exact hth))
      have HW2 : Hid (Below wr.heap.size wr ((wr.alloc (.cells #[.int .i64 0, .string ⟨#[]⟩, .string ⟨#[]⟩, .slice none 0 0, .slice none 0 0, .slice none 0 0, .slice none 0 0] 35)).setCells wr.heap.size 0 cc)) := lhid (below_cells ((Below.refl wr.heap.size wr).alloc (Nat.le_refl _) _) (Nat.le_refl _) _ _)
      have hsz1 : ((wr.alloc (.cells #[.int .i64 0, .string ⟨#[]⟩, .string ⟨#[]⟩, .slice none 0 0, .slice none 0 0, .slice none 0 0, .slice none 0 0] 35)).setCells wr.heap.size 0 cc).heap.size = wr.heap.size + 1 := by rw [setCells_size]; simp
      have HS1 := lhid hsz1
      have k3 : (kk : Int) < l.length := by omega
      have HBN := lhid (HB.out.trans (Below.less HW2.out hbs))
      obtain ⟨a, p, b, d, hcc, r1, r2, r3, r4⟩ := hE
      obtain ⟨xa, da, rfl⟩ := r1.shape
      obtain ⟨xb, db, rfl⟩ := r3.shape
      obtain ⟨xd, dd, rfl⟩ := r4.shape
      have q3 : ((wr.alloc (.cells #[.int .i64 0, .string ⟨#[]⟩, .string ⟨#[]⟩, .slice none 0 0, .slice none 0 0, .slice none 0 0, .slice none 0 0] 35)).setCells wr.heap.size 0 cc).cell? ⟨wr.heap.size, 3, none⟩ = some (.slice xa x.ifaces.length da) := HRB.out 3 _ (by rw [hcc]; rfl)
      have q5 : ((wr.alloc (.cells #[.int .i64 0, .string ⟨#[]⟩, .string ⟨#[]⟩, .slice none 0 0, .slice none 0 0, .slice none 0 0, .slice none 0 0] 35)).setCells wr.heap.size 0 cc).cell? ⟨wr.heap.size, 5, none⟩ = some (.slice xb x.fields.length db) := HRB.out 5 _ (by rw [hcc]; rfl)
      have q6 : ((wr.alloc (.cells #[.int .i64 0, .string ⟨#[]⟩, .string ⟨#[]⟩, .slice none 0 0, .slice none 0 0, .slice none 0 0, .slice none 0 0] 35)).setCells wr.heap.size 0 cc).cell? ⟨wr.heap.size, 6, none⟩ = some (.slice xd x.methods.length dd) := HRB.out 6 _ (by rw [hcc]; rfl)
      clear hx hc hc1 hth hsz1 hcc r1 r2 r3 r4
      go_wp2_with (first | (refine wpList_load_mid rfl 35 _ rfl ga (oa + kk * 7) rfl cc _ HRA.out Try.underlying35 (by rfl) HSZ.out ?_) | (refine wpList_store_mid rfl 35 _ _ rfl wr.heap.size 0 cc.toArray rfl rfl HTA.out HSA.out HALL.out ?_))
      go_roundw
      case rel => exact ⟨kk + 1, _, rfl, by go_num, by omega, HBN⟩
      case measure => simp [intOf]; omega
    · have k3 : ¬ (kk : Int) < l.length := by omega
      go_wp2_with fail
      go_ret
      refine ⟨?_, HB.out⟩
      cases decide (n < 3000)
      · exact .inl (by rfl)
      · exact .inr (by rfl)
end Go.Proofs.Ytkphpihggbbpkaa
