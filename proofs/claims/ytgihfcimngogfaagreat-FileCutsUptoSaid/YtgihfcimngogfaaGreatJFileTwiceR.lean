/- Contract of the document's twice. Written by gen_twice.py. -/
import Derived.Test.YtgihfcimngogfaaGreatM7
import Derived.Test.YtgihfcimngogfaaGreatM13
import Derived.Test.YtgihfcimngogfaaGreatJFileTwice
namespace Go.Proofs.YtgihfcimngogfaaGreat
open Go.RowKit Go
set_option linter.unusedVariables false
def mkI (m : MeI) : Bs × Bs := (m.name, m.desc)
theorem tx_eq2 {a b : Bs} (h : a = b) : ((tx a).toList == (tx b).toList) = true := by rw [h]; simp
theorem tx_neb {a b : Bs} (h : ¬ a = b) : ((tx a).toList == (tx b).toList) = false := by rw [beq_eq_false_iff_ne]; exact tx_ne h
theorem nodup_on {α : Type} {l : List α} {i : Nat} {a : α} (ha : l[i]? = some a) (h : (l.take i).Nodup) : (a ∈ l.take i → ¬ l.Nodup) ∧ (a ∉ l.take i → (l.take (i + 1)).Nodup) := by
 have ht := take_snoc l i a ha
 refine ⟨fun hm hl => ?_, fun hm => ?_⟩
 ·have h2 : (l.take (i + 1)).Nodup := hl.sublist (List.take_sublist _ _)
  rw [ht, List.nodup_append] at h2
  exact h2.2.2 a hm a (by simp) rfl
 ·rw [ht, List.nodup_append]
  refine ⟨h, by simp, fun x hx y hy e => ?_⟩
  simp at hy
  subst hy
  subst e
  exact hm hx
theorem mem_take {α β : Type} {l : List α} {j k : Nat} {a : α} (h : l[j]? = some a) (f : α → β) (hj : j < k) : f a ∈ (l.map f).take k := by
 have h2 : ((l.map f).take k)[j]? = some (f a) := by rw [List.getElem?_take_of_lt hj, List.getElem?_map, h]; rfl
 exact List.mem_of_getElem? h2
set_option maxHeartbeats 16000000 in
set_option maxRecDepth 100000 in
theorem rtwice_any (c : ClI) (v : Value) (w : World) (h : Hid (ClIV w c v)) :
  Calls Tryz.prog 54 #[v] w (SOut (¬ (c.fields.map FlI.name).Nodup ∨ ¬ (c.methods.map mkI).Nodup) w) := by
 obtain ⟨a, p, b, d, rfl, h1, h2, h3, h4⟩ := h.out
 obtain ⟨bA, bc, rfl⟩ := h3.shape
 obtain ⟨dA, dc, rfl⟩ := h4.shape
 have l3 := h3.len
 have l4 := h4.len
 have HX := lhid (heap_alloc_new w (.cells #[.int .i64 c.flags, .string (tx c.name), .string (tx c.super), a, p, .slice bA c.fields.length bc, .slice dA c.methods.length dc] 27))
 have HB := lhid ((Below.refl w.heap.size w).alloc (Nat.le_refl _) (.cells #[.int .i64 c.flags, .string (tx c.name), .string (tx c.super), a, p, .slice bA c.fields.length bc, .slice dA c.methods.length dc] 27))
 have H3 := lhid (h3.below kept_fl HB.out)
 have H4 := lhid (h4.below kept_me HB.out)
 clear h1 h2 h3 h4 h
 go_enter Tryz.func54, Tryz.ntmps54
 go_wp2_with fail
 generalize w.alloc (.cells #[.int .i64 c.flags, .string (tx c.name), .string (tx c.super), a, p, .slice bA c.fields.length bc, .slice dA c.methods.length dc] 27) = W at *
 have p5 := heap_cell (i := 5) HX.out rfl
 have p6 := heap_cell (i := 6) HX.out rfl
 go_loopw [3] (fun i wr => ∃ k n : Nat, i = .int .i64 k ∧ k ≤ c.fields.length ∧ Hid ((c.fields.map FlI.name).take k).Nodup ∧ wr = W.drewN n) (fun i _ => c.fields.length - (intOf i).toNat)
 case atStart => exact ⟨0, 0, rfl, Nat.zero_le _, lhid (by simp), rfl⟩
 case round =>
  obtain ⟨k, n, rfl, hk, HN, rfl⟩ := hrel
  by_cases hlt : k < c.fields.length
  ·obtain ⟨x, hx⟩ : ∃ x, c.fields[k]? = some x := ⟨_, List.getElem?_eq_getElem hlt⟩
   have HXX := lhid hx
   have hnx := nodup_on (l := (c.fields.map FlI.name)) (i := k) (a := x.name) (by rw [List.getElem?_map, hx]; rfl) HN.out
   have HNX := lhid hnx
   clear hnx hx
   obtain ⟨g, o, cc, hA, hE, hc⟩ := H3.out.at' HXX.out
   obtain rfl := hE
   obtain rfl := hA
   have a1 := hc 1 _ rfl
   clear hc
   have k3 : (k : Int) < c.fields.length := by omega
   go_wp2_with fail
   go_loopw [4] (fun i wr => ∃ j q : Nat, i = .int .i64 j ∧ j ≤ k ∧ Hid (x.name ∉ (c.fields.map FlI.name).take j) ∧ wr = W.drewN q) (fun i _ => k - (intOf i).toNat)
   case atStart => exact ⟨0, n, rfl, Nat.zero_le _, lhid (by simp), rfl⟩
   case round =>
    obtain ⟨j, q, rfl, hj, HM, rfl⟩ := hrel
    by_cases hjl : j < k
    ·obtain ⟨y, hy⟩ : ∃ y, c.fields[j]? = some y := ⟨_, List.getElem?_eq_getElem (by omega)⟩
     have HYY := lhid hy
     have hyk : (c.fields.map FlI.name)[j]? = some y.name := by rw [List.getElem?_map, hy]; rfl
     have hts := take_snoc (c.fields.map FlI.name) j _ hyk
     have HTS := lhid hts
     clear hyk hts
     obtain ⟨g', o', cc', hA', hE', hc'⟩ := H3.out.at' hy
     obtain ⟨rfl, rfl⟩ : g = g' ∧ o = o' := by injection hA' with e; injection e with e1 e2; exact ⟨e1, e2⟩
     obtain rfl := hE'
     clear hy hA'
     have b1 := hc' 1 _ rfl
     have k4 : (j : Int) < c.fields.length := by omega
     have k5 : (j : Int) < k := by omega
     clear hc'
     by_cases hxy : x.name = y.name
     ·have d0 := tx_eq2 hxy
      have HDUP := lhid (HNX.out.1 (by rw [hxy]; exact mem_take HYY.out FlI.name hjl))
      clear hxy
      go_wp2_with fail
      go_quiet (fail)
      go_wp2_with fail
      go_ret
      exact sout_yes (.inl HDUP.out) (Below.drewN' (Below.drewN' HB.out _) _)
     ·have d0 := tx_neb hxy
      have HM2 : Hid (x.name ∉ (c.fields.map FlI.name).take (j + 1)) := lhid (by rw [HTS.out]; simp; exact ⟨by simpa using HM.out, hxy⟩)
      clear hxy
      go_wp2_with fail
      go_quiet (fail)
      go_wp2_with fail
      go_roundw
      case rel => exact ⟨j + 1, _, by go_num, by omega, HM2, rfl⟩
      case measure => simp [intOf]; omega
    ·have hjk : j = k := by omega
     have k5 : ¬ (j : Int) < k := by omega
     have hm := HM.out
     rw [hjk] at hm
     have HND := lhid (HNX.out.2 hm)
     clear hm hjk
     go_wp2_with fail
     go_roundw
     case rel => exact ⟨k + 1, _, by go_num, by omega, HND, rfl⟩
     case measure => simp [intOf]; omega
  ·have hkl : k = c.fields.length := by omega
   have k3 : ¬ (k : Int) < c.fields.length := by omega
   have hnd := HN.out
   rw [List.take_of_length_le (by rw [List.length_map]; omega)] at hnd
   have HND3 := lhid hnd
   clear hnd hkl HN
   go_wp2_with fail
   go_loopw [5] (fun i wr => ∃ k n : Nat, i = .int .i64 k ∧ k ≤ c.methods.length ∧ Hid ((c.methods.map mkI).take k).Nodup ∧ wr = W.drewN n) (fun i _ => c.methods.length - (intOf i).toNat)
   case atStart => exact ⟨0, n, rfl, Nat.zero_le _, lhid (by simp), rfl⟩
   case round =>
    obtain ⟨k, n, rfl, hk, HN, rfl⟩ := hrel
    by_cases hlt : k < c.methods.length
    ·obtain ⟨x, hx⟩ : ∃ x, c.methods[k]? = some x := ⟨_, List.getElem?_eq_getElem hlt⟩
     have HXX := lhid hx
     have hnx := nodup_on (l := (c.methods.map mkI)) (i := k) (a := (x.name, x.desc)) (by rw [List.getElem?_map, hx]; rfl) HN.out
     have HNX := lhid hnx
     clear hnx hx
     obtain ⟨g, o, cc, hA, hE, hc⟩ := H4.out.at' HXX.out
     obtain ⟨xa, xb, xd, rfl, _⟩ := hE
     obtain rfl := hA
     have a1 := hc 1 _ rfl
     have a2 := hc 2 _ rfl
     clear hc
     have k3 : (k : Int) < c.methods.length := by omega
     go_wp2_with fail
     go_loopw [6] (fun i wr => ∃ j q : Nat, i = .int .i64 j ∧ j ≤ k ∧ Hid ((x.name, x.desc) ∉ (c.methods.map mkI).take j) ∧ wr = W.drewN q) (fun i _ => k - (intOf i).toNat)
     case atStart => exact ⟨0, n, rfl, Nat.zero_le _, lhid (by simp), rfl⟩
     case round =>
      obtain ⟨j, q, rfl, hj, HM, rfl⟩ := hrel
      by_cases hjl : j < k
      ·obtain ⟨y, hy⟩ : ∃ y, c.methods[j]? = some y := ⟨_, List.getElem?_eq_getElem (by omega)⟩
       have HYY := lhid hy
       have hyk : (c.methods.map mkI)[j]? = some (y.name, y.desc) := by rw [List.getElem?_map, hy]; rfl
       have hts := take_snoc (c.methods.map mkI) j _ hyk
       have HTS := lhid hts
       clear hyk hts
       obtain ⟨g', o', cc', hA', hE', hc'⟩ := H4.out.at' hy
       obtain ⟨rfl, rfl⟩ : g = g' ∧ o = o' := by injection hA' with e; injection e with e1 e2; exact ⟨e1, e2⟩
       obtain ⟨ya, yb, yd, rfl, _⟩ := hE'
       clear hy hA'
       have b1 := hc' 1 _ rfl
       have b2 := hc' 2 _ rfl
       have k4 : (j : Int) < c.methods.length := by omega
       have k5 : (j : Int) < k := by omega
       clear hc'
       by_cases hxy : x.name = y.name
       ·have d0 := tx_eq2 hxy
        by_cases hxz : x.desc = y.desc
        ·have d1 := tx_eq2 hxz
         have HDUP := lhid (HNX.out.1 (by rw [hxy, hxz]; exact mem_take HYY.out mkI hjl))
         clear hxy hxz
         go_wp2_with fail
         go_quiet (fail)
         go_wp2_with fail
         go_ret
         exact sout_yes (.inr HDUP.out) (Below.drewN' (Below.drewN' HB.out _) _)
        ·have d1 := tx_neb hxz
         have HM2 : Hid ((x.name, x.desc) ∉ (c.methods.map mkI).take (j + 1)) := lhid (by rw [HTS.out, List.mem_append]; rintro (h | h); exact HM.out h; simp at h; exact hxz h.2)
         clear hxy hxz
         go_wp2_with fail
         go_quiet (fail)
         go_wp2_with fail
         go_roundw
         case rel => exact ⟨j + 1, _, by go_num, by omega, HM2, rfl⟩
         case measure => simp [intOf]; omega
       ·have d0 := tx_neb hxy
        have HM2 : Hid ((x.name, x.desc) ∉ (c.methods.map mkI).take (j + 1)) := lhid (by rw [HTS.out, List.mem_append]; rintro (h | h); exact HM.out h; simp at h; exact hxy h.1)
        clear hxy
        go_wp2_with fail
        go_quiet (fail)
        go_wp2_with fail
        go_roundw
        case rel => exact ⟨j + 1, _, by go_num, by omega, HM2, rfl⟩
        case measure => simp [intOf]; omega
      ·have hjk : j = k := by omega
       have k5 : ¬ (j : Int) < k := by omega
       have hm := HM.out
       rw [hjk] at hm
       have HND := lhid (HNX.out.2 hm)
       clear hm hjk
       go_wp2_with fail
       go_roundw
       case rel => exact ⟨k + 1, _, by go_num, by omega, HND, rfl⟩
       case measure => simp [intOf]; omega
    ·have hkl : k = c.methods.length := by omega
     have k3 : ¬ (k : Int) < c.methods.length := by omega
     have hnd := HN.out
     rw [List.take_of_length_le (by rw [List.length_map]; omega)] at hnd
     have HND5 := lhid hnd
     clear hnd hkl HN
     go_wp2_with fail
     go_ret
     exact sout_no (fun h => h.elim (fun h => h HND3.out) (fun h => h HND5.out)) (Below.drewN' HB.out _)
end Go.Proofs.YtgihfcimngogfaaGreat
