/- Texts of this claim, joined: KinFits, KinHolds, KinHolds2, KinFits0. -/
import Derived.Test.YtpdnonlelocfbaaGreatDoorM15
import Derived.Test.YtpdnonlelocfbaaGreatDoorJKinDesc
import Derived.Deep.RegionHeld3
import Derived.Deep.Cut
/- Fits: which type fits where another one is wanted. -/
namespace Go.Proofs.YtpdnonlelocfbaaGreatDoor
open Go.RowKit Go Go.Maps
set_option linter.unusedVariables false

/-- As many [ are taken off both as there are references behind. -/
def strip : Bs → Bs → Bs × Bs
  | [], w => ([], w)
  | c :: r, w => if refB (elemL (c :: r)) = true ∧ refB (elemL w) = true then strip r (elemL w) else (c :: r, w)
theorem elem_cons {c : UInt8} {r : Bs} (h : refB (elemL (c :: r)) = true) : elemL (c :: r) = r := by
  unfold elemL at h ⊢
  split
  · simp
  · rename_i hn
    rw [if_neg hn] at h
    simp [refB] at h
theorem strip_on {a b : Bs} (h1 : refB (elemL a) = true) (h2 : refB (elemL b) = true) : strip a b = strip (elemL a) (elemL b) ∧ (elemL a).length < a.length := by
  cases a with
  | nil => simp [elemL, refB] at h1
  | cons c r =>
    have he := elem_cons h1
    constructor
    · rw [strip, if_pos ⟨h1, h2⟩, he]
    · rw [he]; simp
theorem strip_off {a b : Bs} (h : ¬ (refB (elemL a) = true ∧ refB (elemL b) = true)) : strip a b = (a, b) := by
  cases a with
  | nil => rfl
  | cons c r => rw [strip, if_neg h]
def RefFits (L : List ClI) (t w : Bs) : Prop :=
  if (strip t w).1.head? = some 91 then (strip t w).2 = ofL nObject else classL (strip t w).1 ∈ names L ∧ Rch L (classL (strip t w).1) (classL (strip t w).2)
def FitsP (L : List ClI) (t w : Bs) : Prop := w = [] ∨ t = w ∨ (t = [78] ∧ refB w = true) ∨ (t ≠ [78] ∧ RefFits L t w)
def strLen : Value → Nat
  | .string s => s.size
  | _ => 0
theorem of_obj (w : World) : Calls Tryz.prog 117 #[.string ⟨#[79, 98, 106, 101, 99, 116]⟩] w fun e w' => e = .returned (.string (tx (ofL nObject))) ∧ w = w' :=
  of_any ⟨#[79, 98, 106, 101, 99, 116]⟩ w (by decide)
theorem zero_set (w : World) : (zeroValue 170).run Tryz.prog w = .ok (.map none) w := by kernel_rfl
theorem elemL_len (a : Bs) : (elemL a).length ≤ a.length := by
  unfold elemL
  split
  · simp
  · simp
theorem classL_len (a : Bs) : (classL a).length ≤ a.length := by
  unfold classL
  split
  · rw [List.length_dropLast, List.length_drop]; omega
  · simp
set_option maxHeartbeats 8000000 in
set_option maxRecDepth 100000 in
theorem refFits_any (B tb : Nat) (L : List ClI) (t u : Bs) (w : World) (hT : Hid (TreeOK B w tb L)) (ht : t.length ≤ 281474976710656) (hu : u.length ≤ 281474976710656) :
    Calls Tryz.prog 58 #[.pointer (some ⟨tb, 0, none⟩), .string (tx t), .string (tx u)] w fun e w' => ∃ r : Bool, e = .returned (.bool r) ∧ (r = true ↔ RefFits L t u) ∧ Below w.heap.size w w' := by
  have HTL := lhid ht
  have HUL := lhid hu
  clear ht hu
  go_enter Tryz.func58, Tryz.ntmps58
  go_wp2_with fail
  go_loopw [1, 2] (fun x y wr => ∃ a b : Bs, x = .string (tx a) ∧ y = .string (tx b) ∧ Hid (strip a b = strip t u) ∧ Hid (a.length ≤ 281474976710656 ∧ b.length ≤ 281474976710656) ∧ w = wr) (fun x _ _ => strLen x)
  case atStart => exact ⟨t, u, rfl, rfl, lhid rfl, lhid ⟨HTL.out, HUL.out⟩, rfl⟩
  case round =>
    obtain ⟨a, b, rfl, rfl, HS, HL, rfl⟩ := hrel
    go_wp2_with fail
    with_reducible refine (elem_tx a _).mono ?_
    rintro e w1 ⟨rfl, rfl⟩
    go_wp2_with fail
    with_reducible refine (isRef_tx (elemL a) _).mono ?_
    rintro e w1 ⟨rfl, rfl⟩
    obtain ⟨r1, h1⟩ : ∃ r, refB (elemL a) = r := ⟨_, rfl⟩
    obtain ⟨r2, h2⟩ : ∃ r, refB (elemL b) = r := ⟨_, rfl⟩
    have H1 := lhid h1
    have H2 := lhid h2
    rw [h1]
    clear h1 h2
    cases r1 with
    | false =>
      go_wp2_with fail
      have HOFF : Hid (strip t u = (a, b)) := lhid (by rw [← HS.out]; exact strip_off (by rw [H1.out, H2.out]; simp))
      obtain ⟨q, hq⟩ : ∃ r, (a.head? == some 91) = r := ⟨_, rfl⟩
      have HQ := lhid hq
      clear hq
      with_reducible refine (hasPre_tx a 91 q _ HQ).mono ?_
      rintro e w1 ⟨rfl, rfl⟩
      cases q with
      | true =>
        obtain ⟨r, hr⟩ : ∃ r, decide (b = ofL nObject) = r := ⟨_, rfl⟩
        have HR := lhid hr
        have e1 : ((tx b).toList == (tx (ofL nObject)).toList) = r := by
          rw [tx_toL, tx_toL, ← hr, Bool.eq_iff_iff]
          simp
        clear hr
        go_wp2_with fail
        with_reducible refine (of_obj _).mono ?_
        rintro e w1 ⟨rfl, rfl⟩
        go_wp2_with fail
        go_ret
        have hi : RefFits L t u ↔ r = true := by
          unfold RefFits
          rw [HOFF.out, if_pos (by simpa using HQ.out), ← HR.out]
          simp
        have HI := lhid hi
        clear hi
        cases r
        · exact ⟨false, by rfl, ⟨fun e => (by cases e), fun h => (HI.out.1 h)⟩, Below.refl _ _⟩
        · exact ⟨true, by rfl, ⟨fun _ => HI.out.2 rfl, fun _ => rfl⟩, Below.refl _ _⟩
      | false =>
        have hal : a.length ≤ maxLen := by have := HL.out.1; unfold maxLen; omega
        have hbl : b.length ≤ maxLen := by have := HL.out.2; unfold maxLen; omega
        have hcl : (classL a).length ≤ maxLen := Nat.le_trans (classL_len a) hal
        have hcb : (classL b).length ≤ maxLen := Nat.le_trans (classL_len b) hbl
        obtain ⟨⟨cb, ab, n, v0, g1, g2, g3, f, hm, hfs⟩, g6⟩ := hT.out
        have HM := lhid hm
        have t2 := heap_cell (i := 2) g1 rfl
        have HRF : Hid (RefFits L t u ↔ classL a ∈ names L ∧ Rch L (classL a) (classL b)) := lhid (by
          unfold RefFits
          rw [HOFF.out, if_neg (by intro h; rw [show a.head? = some 91 from h] at HQ; exact absurd HQ.out (by simp))])
        clear g1 g2 g3 g6 hm
        go_upto_region 5 with fail
        by_cases hn : classL a ∈ names L
        · obtain ⟨sb, S, q3, q4, q5, q6⟩ := (hfs _).1 hn
          have HN := lhid hn
          have HFU := lhid q3
          have HSV : Hid (SV w.drew sb S) := lhid q4
          have HQ6 := lhid q6
          clear hn q3 q4 q5 q6 hfs
          have hlk : ∀ w' : World, Below w.heap.size w w' → (w'.cell? ⟨tb, 2, none⟩ = some (.map (some ab)) ∧ (Instr.lookup 98 (.map (some ab)) (.string (tx (classL a))) false).run Tryz.prog w' = .ok (.map (some sb)) w') := fun w' hb => ⟨(hb.cell (p := ⟨tb, 2, none⟩) (cell_lt t2)).trans t2, by
            have := ((HM.out.below hb).look und_am (zero_set w') hcl).1
            rw [HFU.out] at this
            exact this⟩
          have HLK := lhid hlk
          clear hlk t2
          go_region_held3 (fun w' => w'.cell? ⟨tb, 2, none⟩ = some (.map (some ab)) ∧ (Instr.lookup 98 (.map (some ab)) (.string (tx (classL a))) false).run Tryz.prog w' = .ok (.map (some sb)) w') (first | exact HLK.out _ (Below.drew (Below.refl _ _)) | exact HLK.out _ hb7 | exact HLK.out _ (Below.drew hb7)) (first
            | ((with_reducible refine (class_tx a _ hal).mono ?_); rintro e w5 ⟨rfl, rfl⟩)
            | ((with_reducible refine (class_tx b _ hbl).mono ?_); rintro e w5 ⟨rfl, rfl⟩)
            | ((with_reducible refine (has_any sb S (classL b) _ HSV hcb).mono ?_); rintro e w7 ⟨rfl, hb7'⟩; have hb7 : Below w.heap.size w w7 := ⟨hb7'.os, hb7'.tape, hb7'.output, hb7'.size, hb7'.block⟩))
          all_goals go_wp2_with fail
          all_goals go_ret
          all_goals exact ⟨decide (classL b ∈ S), by rfl, by rw [HRF.out, decide_eq_true_iff, HQ6.out]; exact ⟨fun h => ⟨HN.out, h⟩, fun h => h.2⟩, hb7⟩
        · have HN := lhid hn
          have HFU := lhid ((hfs _).2 hn)
          clear hn hfs
          have hlk : ∀ w' : World, Below w.heap.size w w' → (w'.cell? ⟨tb, 2, none⟩ = some (.map (some ab)) ∧ (Instr.lookup 98 (.map (some ab)) (.string (tx (classL a))) false).run Tryz.prog w' = .ok (.map none) w') := fun w' hb => ⟨(hb.cell (p := ⟨tb, 2, none⟩) (cell_lt t2)).trans t2, by
            have := ((HM.out.below hb).look und_am (zero_set w') hcl).1
            rw [HFU.out] at this
            exact this⟩
          have HLK := lhid hlk
          clear hlk t2
          go_region_held3 (fun w' => w'.cell? ⟨tb, 2, none⟩ = some (.map (some ab)) ∧ (Instr.lookup 98 (.map (some ab)) (.string (tx (classL a))) false).run Tryz.prog w' = .ok (.map none) w') (first | exact HLK.out _ (Below.drew (Below.refl _ _)) | exact HLK.out _ hb7 | exact HLK.out _ (Below.drew hb7)) (first
            | ((with_reducible refine (class_tx a _ hal).mono ?_); rintro e w5 ⟨rfl, rfl⟩)
            | ((with_reducible refine (class_tx b _ hbl).mono ?_); rintro e w5 ⟨rfl, rfl⟩)
            | ((with_reducible refine (has_nil (classL b) _ hcb).mono ?_); rintro e w7 ⟨rfl, hb7'⟩; have hb7 : Below w.heap.size w w7 := ⟨hb7'.os, hb7'.tape, hb7'.output, hb7'.size, hb7'.block⟩))
          all_goals go_wp2_with fail
          all_goals go_ret
          all_goals exact ⟨false, by rfl, ⟨fun e => (by cases e), fun h => absurd (HRF.out.1 h).1 HN.out⟩, hb7⟩
    | true =>
     go_wp2_with fail
     with_reducible refine (elem_tx b _).mono ?_
     rintro e w1 ⟨rfl, rfl⟩
     go_wp2_with fail
     with_reducible refine (isRef_tx (elemL b) _).mono ?_
     rintro e w1 ⟨rfl, rfl⟩
     rw [H2.out]
     cases r2 with
     | true =>
       have HON := lhid (strip_on H1.out H2.out)
       go_wp2_with fail
       with_reducible refine (elem_tx a _).mono ?_
       rintro e w1 ⟨rfl, rfl⟩
       go_wp2_with fail
       with_reducible refine (elem_tx b _).mono ?_
       rintro e w1 ⟨rfl, rfl⟩
       go_wp2_with fail
       go_roundw
       case rel => exact ⟨elemL a, elemL b, rfl, rfl, lhid (by rw [← HS.out]; exact HON.out.1.symm), lhid ⟨Nat.le_trans (elemL_len a) HL.out.1, Nat.le_trans (elemL_len b) HL.out.2⟩, by first | rfl | trivial⟩
       case measure => simp only [strLen, tx_size]; exact HON.out.2
     | false =>
       go_wp2_with fail
       have HOFF : Hid (strip t u = (a, b)) := lhid (by rw [← HS.out]; exact strip_off (by rw [H1.out, H2.out]; simp))
       obtain ⟨q, hq⟩ : ∃ r, (a.head? == some 91) = r := ⟨_, rfl⟩
       have HQ := lhid hq
       clear hq
       with_reducible refine (hasPre_tx a 91 q _ HQ).mono ?_
       rintro e w1 ⟨rfl, rfl⟩
       cases q with
       | true =>
         obtain ⟨r, hr⟩ : ∃ r, decide (b = ofL nObject) = r := ⟨_, rfl⟩
         have HR := lhid hr
         have e1 : ((tx b).toList == (tx (ofL nObject)).toList) = r := by
           rw [tx_toL, tx_toL, ← hr, Bool.eq_iff_iff]
           simp
         clear hr
         go_wp2_with fail
         with_reducible refine (of_obj _).mono ?_
         rintro e w1 ⟨rfl, rfl⟩
         go_wp2_with fail
         go_ret
         have hi : RefFits L t u ↔ r = true := by
           unfold RefFits
           rw [HOFF.out, if_pos (by simpa using HQ.out), ← HR.out]
           simp
         have HI := lhid hi
         clear hi
         cases r
         · exact ⟨false, by rfl, ⟨fun e => (by cases e), fun h => (HI.out.1 h)⟩, Below.refl _ _⟩
         · exact ⟨true, by rfl, ⟨fun _ => HI.out.2 rfl, fun _ => rfl⟩, Below.refl _ _⟩
       | false =>
         have hal : a.length ≤ maxLen := by have := HL.out.1; unfold maxLen; omega
         have hbl : b.length ≤ maxLen := by have := HL.out.2; unfold maxLen; omega
         have hcl : (classL a).length ≤ maxLen := Nat.le_trans (classL_len a) hal
         have hcb : (classL b).length ≤ maxLen := Nat.le_trans (classL_len b) hbl
         obtain ⟨⟨cb, ab, n, v0, g1, g2, g3, f, hm, hfs⟩, g6⟩ := hT.out
         have HM := lhid hm
         have t2 := heap_cell (i := 2) g1 rfl
         have HRF : Hid (RefFits L t u ↔ classL a ∈ names L ∧ Rch L (classL a) (classL b)) := lhid (by
           unfold RefFits
           rw [HOFF.out, if_neg (by intro h; rw [show a.head? = some 91 from h] at HQ; exact absurd HQ.out (by simp))])
         clear g1 g2 g3 g6 hm
         go_upto_region 5 with fail
         by_cases hn : classL a ∈ names L
         · obtain ⟨sb, S, q3, q4, q5, q6⟩ := (hfs _).1 hn
           have HN := lhid hn
           have HFU := lhid q3
           have HSV : Hid (SV w.drew sb S) := lhid q4
           have HQ6 := lhid q6
           clear hn q3 q4 q5 q6 hfs
           have hlk : ∀ w' : World, Below w.heap.size w w' → (w'.cell? ⟨tb, 2, none⟩ = some (.map (some ab)) ∧ (Instr.lookup 98 (.map (some ab)) (.string (tx (classL a))) false).run Tryz.prog w' = .ok (.map (some sb)) w') := fun w' hb => ⟨(hb.cell (p := ⟨tb, 2, none⟩) (cell_lt t2)).trans t2, by
             have := ((HM.out.below hb).look und_am (zero_set w') hcl).1
             rw [HFU.out] at this
             exact this⟩
           have HLK := lhid hlk
           clear hlk t2
           go_region_held3 (fun w' => w'.cell? ⟨tb, 2, none⟩ = some (.map (some ab)) ∧ (Instr.lookup 98 (.map (some ab)) (.string (tx (classL a))) false).run Tryz.prog w' = .ok (.map (some sb)) w') (first | exact HLK.out _ (Below.drew (Below.refl _ _)) | exact HLK.out _ hb7 | exact HLK.out _ (Below.drew hb7)) (first
             | ((with_reducible refine (class_tx a _ hal).mono ?_); rintro e w5 ⟨rfl, rfl⟩)
             | ((with_reducible refine (class_tx b _ hbl).mono ?_); rintro e w5 ⟨rfl, rfl⟩)
             | ((with_reducible refine (has_any sb S (classL b) _ HSV hcb).mono ?_); rintro e w7 ⟨rfl, hb7'⟩; have hb7 : Below w.heap.size w w7 := ⟨hb7'.os, hb7'.tape, hb7'.output, hb7'.size, hb7'.block⟩))
           all_goals go_wp2_with fail
           all_goals go_ret
           all_goals exact ⟨decide (classL b ∈ S), by rfl, by rw [HRF.out, decide_eq_true_iff, HQ6.out]; exact ⟨fun h => ⟨HN.out, h⟩, fun h => h.2⟩, hb7⟩
         · have HN := lhid hn
           have HFU := lhid ((hfs _).2 hn)
           clear hn hfs
           have hlk : ∀ w' : World, Below w.heap.size w w' → (w'.cell? ⟨tb, 2, none⟩ = some (.map (some ab)) ∧ (Instr.lookup 98 (.map (some ab)) (.string (tx (classL a))) false).run Tryz.prog w' = .ok (.map none) w') := fun w' hb => ⟨(hb.cell (p := ⟨tb, 2, none⟩) (cell_lt t2)).trans t2, by
             have := ((HM.out.below hb).look und_am (zero_set w') hcl).1
             rw [HFU.out] at this
             exact this⟩
           have HLK := lhid hlk
           clear hlk t2
           go_region_held3 (fun w' => w'.cell? ⟨tb, 2, none⟩ = some (.map (some ab)) ∧ (Instr.lookup 98 (.map (some ab)) (.string (tx (classL a))) false).run Tryz.prog w' = .ok (.map none) w') (first | exact HLK.out _ (Below.drew (Below.refl _ _)) | exact HLK.out _ hb7 | exact HLK.out _ (Below.drew hb7)) (first
             | ((with_reducible refine (class_tx a _ hal).mono ?_); rintro e w5 ⟨rfl, rfl⟩)
             | ((with_reducible refine (class_tx b _ hbl).mono ?_); rintro e w5 ⟨rfl, rfl⟩)
             | ((with_reducible refine (has_nil (classL b) _ hcb).mono ?_); rintro e w7 ⟨rfl, hb7'⟩; have hb7 : Below w.heap.size w w7 := ⟨hb7'.os, hb7'.tape, hb7'.output, hb7'.size, hb7'.block⟩))
           all_goals go_wp2_with fail
           all_goals go_ret
           all_goals exact ⟨false, by rfl, ⟨fun e => (by cases e), fun h => absurd (HRF.out.1 h).1 HN.out⟩, hb7⟩
set_option maxHeartbeats 8000000 in
set_option maxRecDepth 100000 in
theorem fits_any (B tb : Nat) (L : List ClI) (t u : Bs) (w : World) (hT : Hid (TreeOK B w tb L)) (ht : t.length ≤ 281474976710656) (hu : u.length ≤ 281474976710656) :
    Calls Tryz.prog 17 #[.pointer (some ⟨tb, 0, none⟩), .string (tx t), .string (tx u)] w fun e w' => ∃ r : Bool, e = .returned (.bool r) ∧ (r = true ↔ FitsP L t u) ∧ Below w.heap.size w w' := by
  have HTL := lhid ht
  have HUL := lhid hu
  clear ht hu
  obtain ⟨r1, h1⟩ : ∃ r, decide (u = []) = r := ⟨_, rfl⟩
  obtain ⟨r2, h2⟩ : ∃ r, decide (t = u) = r := ⟨_, rfl⟩
  obtain ⟨r3, h3⟩ : ∃ r, decide (t = [78]) = r := ⟨_, rfl⟩
  have e1 : ((tx u).toList == []) = r1 := by rw [tx_toL, ← h1, Bool.eq_iff_iff]; simp
  have e2 : ((tx t).toList == (tx u).toList) = r2 := by rw [tx_toL, tx_toL, ← h2, Bool.eq_iff_iff]; simp
  have e3 : ((tx t).toList == [78]) = r3 := by rw [tx_toL, ← h3, Bool.eq_iff_iff]; simp
  have H1 := lhid h1
  have H2 := lhid h2
  have H3 := lhid h3
  clear h1 h2 h3
  go_enter Tryz.func17, Tryz.ntmps17
  cases r1 with
  | true =>
    go_wp2_with fail
    go_ret
    first
      | exact ⟨true, by rfl, ⟨fun _ => .inl (by simpa using H1.out), fun _ => rfl⟩, Below.refl _ _⟩
      | exact .inr ⟨by rfl, .inl (by simpa using H1.out), Below.refl _ _⟩
  | false =>
    cases r2 with
    | true =>
      go_wp2_with fail
      go_ret
      first
        | exact ⟨true, by rfl, ⟨fun _ => .inr (.inl (by simpa using H2.out)), fun _ => rfl⟩, Below.refl _ _⟩
        | exact .inr ⟨by rfl, .inr (.inl (by simpa using H2.out)), Below.refl _ _⟩
    | false =>
      have hn1 : ¬ u = [] := by simpa using H1.out
      have hn2 : ¬ t = u := by simpa using H2.out
      have HN1 := lhid hn1
      have HN2 := lhid hn2
      clear hn1 hn2
      cases r3 with
      | true =>
        have h3 : t = [78] := by simpa using H3.out
        have HT3 := lhid h3
        clear h3
        go_wp2_with fail
        with_reducible refine (isRef_tx u _).mono ?_
        rintro e w1 ⟨rfl, rfl⟩
        obtain ⟨q, hq⟩ : ∃ q, refB u = q := ⟨_, rfl⟩
        have HQ := lhid hq
        rw [hq]
        clear hq
        go_wp2_with fail
        go_ret
        have hi : q = true ↔ FitsP L t u := by
          unfold FitsP
          rw [← HQ.out]
          constructor
          · intro h; exact .inr (.inr (.inl ⟨HT3.out, h⟩))
          · rintro (h | h | h | h)
            · exact absurd h HN1.out
            · exact absurd h HN2.out
            · exact h.2
            · exact absurd HT3.out h.1
        exact ⟨q, by rfl, hi, Below.refl _ _⟩
      | false =>
        have h3 : ¬ t = [78] := by simpa using H3.out
        have HT3 := lhid h3
        clear h3
        go_wp2_with fail
        with_reducible refine (refFits_any B tb L t u _ hT HTL.out HUL.out).mono ?_
        rintro e w1 ⟨q, rfl, hq, hb⟩
        have HB := lhid hb
        have HQ := lhid hq
        clear hb hq
        go_wp2_with fail
        go_ret
        have hi : q = true ↔ FitsP L t u := by
          unfold FitsP
          rw [HQ.out]
          constructor
          · intro h; exact .inr (.inr (.inr ⟨HT3.out, h⟩))
          · rintro (h | h | h | h)
            · exact absurd h HN1.out
            · exact absurd h HN2.out
            · exact absurd h.1 HT3.out
            · exact h.2
        exact ⟨q, by rfl, hi, HB.out⟩
end Go.Proofs.YtpdnonlelocfbaaGreatDoor
/- Own, Native, and law 07's holds. -/
namespace Go.Proofs.YtpdnonlelocfbaaGreatDoor
open Go.RowKit Go Go.Maps
set_option linter.unusedVariables false

def omIs (c n d : Bs) (m : Om) : Bool := decide (m.cls = c) && decide (m.name = n) && decide (m.desc = d)
/-- Which of the machine's own methods it is. -/
def natI (c n d : Bs) : Int := match ownM.findIdx? (omIs c n d) with | none => -1 | some i => i
theorem findIdx_at {α : Type} (p : α → Bool) : ∀ (l : List α) (k : Nat) (x : α), l[k]? = some x → p x = true → (∀ y ∈ l.take k, p y = false) → l.findIdx? p = some k
  | [], k, x, h, _, _ => by simp at h
  | a :: l, 0, x, h, hp, _ => by
    simp at h
    subst h
    rw [List.findIdx?_cons, hp]
    rfl
  | a :: l, k + 1, x, h, hp, hn => by
    rw [List.findIdx?_cons, hn a (by simp)]
    have := findIdx_at p l k x (by simpa using h) hp (fun y hy => hn y (by simp [hy]))
    simp [this]
set_option maxHeartbeats 8000000 in
set_option maxRecDepth 100000 in
theorem native_any (c n d : Bs) (w : World) :
    Calls Tryz.prog 28 #[.string (tx c), .string (tx n), .string (tx d)] w fun e w' => e = .returned (.int .i64 (natI c n d)) ∧ Below w.heap.size w w' := by
  go_enter Tryz.func28, Tryz.ntmps28
  go_wp2_with fail
  with_reducible refine (ownMethods_any _).mono ?_
  rintro e w1 ⟨v1, rfl, hv, hb⟩
  obtain ⟨A, c1, rfl⟩ := hv.shape
  have H := lhid hv
  have HB1 := lhid hb
  have hws := hb.size
  have hlen6 : (ownM.length : Int) = 6 := rfl
  clear hv hb
  go_wp2_with fail
  go_loopw [11] (fun i wr => ∃ kk : Nat, i = .int .i64 kk ∧ kk ≤ ownM.length ∧ Hid (∀ y ∈ ownM.take kk, omIs c n d y = false) ∧ Hid (Below w1.heap.size w1 wr)) (fun i _ => ownM.length - (intOf i).toNat)
  case atStart => exact ⟨0, rfl, Nat.zero_le _, lhid (by simp), lhid (Below.refl _ _)⟩
  case round =>
    obtain ⟨kk, rfl, hkk, HN, HB⟩ := hrel
    have hbs := HB.out.size
    by_cases hlt : kk < ownM.length
    · obtain ⟨x, hx⟩ : ∃ x, ownM[kk]? = some x := ⟨_, List.getElem?_eq_getElem hlt⟩
      have HX := lhid hx
      obtain ⟨ga, oa, cc, rfl, _, hE, hc⟩ := (H.out.below (keptX_om _) HB.out).at' hx
      have hE' : cc = omE x := hE
      subst hE'
      have q0 : wr.cell? ⟨ga, oa + kk * 4, none⟩ = some (.string (tx x.cls)) := hc 0 _ rfl
      have q1 : wr.cell? ⟨ga, oa + kk * 4 + 1, none⟩ = some (.string (tx x.name)) := hc 1 _ rfl
      have q2 : wr.cell? ⟨ga, oa + kk * 4 + 2, none⟩ = some (.string (tx x.desc)) := hc 2 _ rfl
      have q3 : wr.cell? ⟨ga, oa + kk * 4 + 3, none⟩ = some (.int .i64 x.flags) := hc 3 _ rfl
      have k3 : (kk : Int) < ownM.length := by omega
      obtain ⟨r1, h1⟩ : ∃ r, decide (x.cls = c) = r := ⟨_, rfl⟩
      obtain ⟨r2, h2⟩ : ∃ r, decide (x.name = n) = r := ⟨_, rfl⟩
      obtain ⟨r3, h3⟩ : ∃ r, decide (x.desc = d) = r := ⟨_, rfl⟩
      have HI : Hid (omIs c n d x = (r1 && r2 && r3)) := lhid (by unfold omIs; rw [h1, h2, h3])
      have e1 : ((tx x.cls).toList == (tx c).toList) = r1 := by rw [tx_toL, tx_toL, ← h1, Bool.eq_iff_iff]; simp
      have e2 : ((tx x.name).toList == (tx n).toList) = r2 := by rw [tx_toL, tx_toL, ← h2, Bool.eq_iff_iff]; simp
      have e3 : ((tx x.desc).toList == (tx d).toList) = r3 := by rw [tx_toL, tx_toL, ← h3, Bool.eq_iff_iff]; simp
      have HA : Hid (Below w1.heap.size w1 (wr.alloc (.cells #[.string (tx x.cls), .string (tx x.name), .string (tx x.desc), .int .i64 x.flags] 136))) := lhid (HB.out.alloc hbs _)
      clear hx hE hc h1 h2 h3
      cases r1 <;> cases r2 <;> cases r3
      all_goals go_wp2_with fail
      all_goals first
        | (go_ret; exact ⟨by unfold natI; rw [findIdx_at _ ownM kk x HX.out (by rw [HI.out]; rfl) HN.out]; rfl, HB1.out.trans (Below.less HA.out hws)⟩)
        | (go_roundw
           case rel => exact ⟨kk + 1, by go_num, by omega, lhid (fun y hy => by
             rw [List.take_add_one, HX.out] at hy
             rcases List.mem_append.1 hy with hy | hy
             · exact HN.out y hy
             · simp at hy
               rw [hy, HI.out]
               rfl), HA⟩
           case measure => simp [intOf]; omega)
    · have k3 : ¬ (kk : Int) < ownM.length := by omega
      have e : kk = ownM.length := by omega
      subst e
      have hn := HN.out
      rw [List.take_length] at hn
      have HNN : Hid (natI c n d = -1) := lhid (by
        unfold natI
        rw [List.findIdx?_eq_none_iff.2 (fun y hy => hn y hy)])
      clear hn
      go_wp2_with fail
      go_ret
      exact ⟨by rw [HNN.out]; rfl, HB1.out.trans (Below.less HB.out hws)⟩
end Go.Proofs.YtpdnonlelocfbaaGreatDoor
/- No circles by ranks. -/
namespace Go.Proofs.YtpdnonlelocfbaaGreatDoor
open Go.RowKit Go Go.Maps
set_option linter.unusedVariables false

/-- No class stands above itself where each one's kin have smaller numbers. -/
theorem rch_rank {L : List ClI} (rank : Bs → Nat) (h : ∀ s, ∀ n ∈ nxt L s, rank n < rank s) {x z : Bs} (hr : Rch L x z) : rank z ≤ rank x := by
  induction hr with
  | refl => exact Nat.le_refl _
  | step h1 _ ih => exact Nat.le_trans ih (Nat.le_of_lt (h _ _ h1))
theorem no_circ {L : List ClI} (rank : Bs → Nat) (h : ∀ s, ∀ n ∈ nxt L s, rank n < rank s) (s : Bs) : ¬ Circ L s := by
  rintro ⟨n, hn, hr⟩
  have := rch_rank rank h hr
  have := h s n hn
  omega
/-- Whoever has kin is one of the classes. -/
theorem nxt_in {L : List ClI} (Q : Bs → List Bs → Bool) (h : ∀ c ∈ L, ∀ n ∈ kinOf L c, Q c.name [n] = true) (s n : Bs) (hn : n ∈ nxt L s) : Q s [n] = true := by
  unfold nxt at hn
  cases hf : findC L s with
  | none => rw [hf] at hn; cases hn
  | some c =>
    rw [hf] at hn
    have := findC_some hf
    rw [← this.2]
    exact h c this.1 n hn
theorem newE_fun {l : List ClI} {x y : Int} (h : NewE l x) (k : NewE l y) : x = y := by
  unfold NewE at h k
  rcases h with ⟨h1, rfl⟩ | ⟨h1, ⟨h2, rfl⟩ | ⟨h2, ⟨h3, rfl⟩ | ⟨h3, ⟨h4, rfl⟩ | ⟨h4, ⟨⟨s, hs, h5⟩, rfl⟩ | ⟨h5, rfl⟩⟩⟩⟩⟩ <;>
  rcases k with ⟨k1, rfl⟩ | ⟨k1, ⟨k2, rfl⟩ | ⟨k2, ⟨k3, rfl⟩ | ⟨k3, ⟨k4, rfl⟩ | ⟨k4, ⟨⟨z, hz, k5⟩, rfl⟩ | ⟨k5, rfl⟩⟩⟩⟩⟩ <;>
  first
    | rfl
    | omega
    | exact absurd k3 h3
    | exact absurd h3 k3
    | exact absurd k4 h4
    | exact absurd h4 k4
    | exact absurd h5 (k5 s hs)
    | exact absurd k5 (h5 z hz)
    | (exfalso; rw [h2] at k2; exact Bool.noConfusion k2)
abbrev tA : Bs := [76, 97, 59]
end Go.Proofs.YtpdnonlelocfbaaGreatDoor
/- What fits in what fits fits; types that are known. -/
namespace Go.Proofs.YtpdnonlelocfbaaGreatDoor
open Go.RowKit Go Go.Maps
set_option linter.unusedVariables false

theorem elem_head {x : Bs} (h : refB (elemL x) = true) : x.head? = some 91 := by
  unfold elemL at h
  split at h
  · assumption
  · simp [refB] at h
theorem classL_91 {x : Bs} (h : ¬ x.head? = some 76) : classL x = [] := by
  unfold classL
  rw [if_neg (fun e => h e.1)]
theorem classL_head {L : List ClI} (hC : Closed L) {x : Bs} (h : classL x ∈ names L) : x.head? = some 76 := by
  rcases Classical.em (x.head? = some 76) with e | e
  · exact e
  · exact absurd (by rw [← classL_91 e]; exact h) hC.2
theorem classL_of {x y : Bs} (h : classL x = y) (hy : y ≠ []) : x = 76 :: y ++ [59] := by
  unfold classL at h
  split at h
  · rename_i e
    cases x with
    | nil => simp at e
    | cons c r =>
      simp at e h
      obtain ⟨rfl, e⟩ := e
      have hr : r ≠ [] := fun e' => by rw [e'] at e; cases e
      rw [List.getLast?_eq_some_getLast hr] at e
      injection e with e
      have := List.dropLast_concat_getLast hr
      rw [h, e] at this
      rw [← this]
      rfl
  · exact absurd h.symm hy
theorem refFits_on {L : List ClI} {t w : Bs} (h1 : refB (elemL t) = true) (h2 : refB (elemL w) = true) : RefFits L t w ↔ RefFits L (elemL t) (elemL w) := by
  unfold RefFits
  rw [(strip_on h1 h2).1]
theorem refFits_off {L : List ClI} {t w : Bs} (h : ¬ (refB (elemL t) = true ∧ refB (elemL w) = true)) : RefFits L t w ↔ if t.head? = some 91 then w = ofL nObject else classL t ∈ names L ∧ Rch L (classL t) (classL w) := by
  unfold RefFits
  rw [strip_off h]
theorem obj_elem : ¬ refB (elemL (ofL nObject)) = true := by decide
theorem obj_head : ¬ (ofL nObject).head? = some 91 := by decide
theorem obj_class : classL (ofL nObject) = nObject := by decide
theorem obj_ref : refB (ofL nObject) = true := by decide
theorem obj_only {L : List ClI} (hO : nxt L nObject = []) {z : Bs} (h : Rch L nObject z) : z = nObject := by
  cases h with
  | refl => rfl
  | step h1 _ => rw [hO] at h1; cases h1
theorem ref_obj {L : List ClI} (hO : nxt L nObject = []) {c : Bs} (h : RefFits L (ofL nObject) c) : c = ofL nObject := by
  rw [refFits_off (fun e => obj_elem e.1), if_neg obj_head, obj_class] at h
  exact classL_of (obj_only hO h.2) (by decide)
theorem ref_trans {L : List ClI} (hC : Closed L) (hO : nxt L nObject = []) : ∀ (k : Nat) (a b c : Bs), a.length < k → RefFits L a b → RefFits L b c → RefFits L a c := by
  intro k
  induction k with
  | zero => intro a b c h; omega
  | succ k ih =>
    intro a b c hk hab hbc
    have toObj : a.head? = some 91 → c = ofL nObject → RefFits L a c := fun h e => by
      subst e
      rw [refFits_off (fun e => obj_elem e.2), if_pos h]
    by_cases hA : refB (elemL a) = true
    · have hah := elem_head hA
      by_cases hB : refB (elemL b) = true
      · have hbh := elem_head hB
        rw [refFits_on hA hB] at hab
        by_cases hc : refB (elemL c) = true
        · rw [refFits_on hB hc] at hbc
          rw [refFits_on hA hc]
          exact ih _ _ _ (by have := (strip_on hA hB).2; omega) hab hbc
        · rw [refFits_off (fun h => hc h.2), if_pos hbh] at hbc
          exact toObj hah hbc
      · rw [refFits_off (fun h => hB h.2), if_pos hah] at hab
        subst hab
        exact toObj hah (ref_obj hO hbc)
    · rw [refFits_off (fun h => hA h.1)] at hab
      by_cases hah : a.head? = some 91
      · rw [if_pos hah] at hab
        subst hab
        exact toObj hah (ref_obj hO hbc)
      · rw [if_neg hah] at hab
        have hcb : classL b ∈ names L := rch_in hC hab.1 hab.2
        have hbh : ¬ b.head? = some 91 := fun h => by rw [classL_head hC hcb] at h; cases h
        rw [refFits_off (fun h => hbh (elem_head h.1)), if_neg hbh] at hbc
        rw [refFits_off (fun h => hA h.1), if_neg hah]
        exact ⟨hab.1, hab.2.trans hbc.2⟩
theorem head_ref {x : Bs} {c : UInt8} (h : x.head? = some c) (hc : c = 76 ∨ c = 91) : refB x = true := by
  unfold refB
  rw [h]
  rcases hc with rfl | rfl <;> rfl
theorem ref_ref {L : List ClI} (hC : Closed L) {b c : Bs} (h : RefFits L b c) : refB c = true := by
  by_cases hs : refB (elemL b) = true ∧ refB (elemL c) = true
  · exact head_ref (elem_head hs.2) (.inr rfl)
  · rw [refFits_off hs] at h
    split at h
    · rw [h]; exact obj_ref
    · exact head_ref (classL_head hC (rch_in hC h.1 h.2)) (.inl rfl)
/-- What fits in what fits fits. -/
theorem fits_trans {L : List ClI} (hC : Closed L) (hO : nxt L nObject = []) {a b c : Bs} (hab : FitsP L a b) (hbc : FitsP L b c) (hb : ¬ b = []) : FitsP L a c := by
  have hN : ¬ refB [78] = true := by decide
  rcases hab with h | rfl | ⟨ha, h⟩ | ⟨ha, h⟩
  · exact absurd h hb
  · exact hbc
  · rcases hbc with k | rfl | ⟨k1, k2⟩ | ⟨k1, k2⟩
    · exact .inl k
    · exact .inr (.inr (.inl ⟨ha, h⟩))
    · subst k1
      exact absurd h hN
    · exact .inr (.inr (.inl ⟨ha, ref_ref hC k2⟩))
  · rcases hbc with k | rfl | ⟨k1, k2⟩ | ⟨k1, k2⟩
    · exact .inl k
    · exact .inr (.inr (.inr ⟨ha, h⟩))
    · subst k1
      exact absurd (ref_ref hC h) hN
    · exact .inr (.inr (.inr ⟨ha, ref_trans hC hO _ _ _ _ (Nat.lt_succ_self _) h k2⟩))
/-- What is known of a type that is known. -/
def KnownF (L : List ClI) (x : Bs) : Prop := x ≠ [] ∧ x ≠ [78] ∧ (x.head? = some 76 → classL x ∈ names L)
theorem refB_head {x : Bs} (h : refB x = true) : x.head? = some 76 ∨ x.head? = some 91 := by
  unfold refB at h
  simpa using h
theorem known_obj {L : List ClI} (hR : Rooted L) (hN : ∀ s ∈ names L, ¬ Circ L s) {x : Bs} (hx : KnownF L x) (h : refB x = true) : RefFits L x (ofL nObject) := by
  rw [refFits_off (fun e => obj_elem e.2)]
  rcases refB_head h with e | e
  · rw [if_neg (by rw [e]; decide), obj_class]
    exact ⟨hx.2.2 e, above_object hR hN (hx.2.2 e)⟩
  · rw [if_pos e]
theorem known_3 {L : List ClI} {x : Bs} (hx : KnownF L x) : FitsP L [78] x ↔ refB x = true := by
  constructor
  · rintro (h | h | ⟨_, h⟩ | ⟨h, _⟩)
    · exact absurd h hx.1
    · exact absurd h.symm hx.2.1
    · exact h
    · exact absurd rfl h
  · exact fun h => .inr (.inr (.inl ⟨rfl, h⟩))
theorem known_4 {L : List ClI} (hC : Closed L) (hR : Rooted L) (hN : ∀ s ∈ names L, ¬ Circ L s) {x : Bs} (hx : KnownF L x) : FitsP L x (ofL nObject) ↔ refB x = true := by
  constructor
  · rintro (h | h | ⟨h, _⟩ | ⟨_, h⟩)
    · exact absurd h (by decide)
    · rw [h]; exact obj_ref
    · exact absurd h hx.2.1
    · rw [refFits_off (fun e => obj_elem e.2)] at h
      split at h
      · rename_i e
        exact head_ref e (.inr rfl)
      · exact head_ref (classL_head hC h.1) (.inl rfl)
  · exact fun h => .inr (.inr (.inr ⟨hx.2.1, known_obj hR hN hx h⟩))
theorem known_5 {L : List ClI} (hC : Closed L) {x : Bs} (hx : KnownF L x) : ¬ FitsP L [] x := by
  rintro (h | h | ⟨h, _⟩ | ⟨_, h⟩)
  · exact hx.1 h
  · exact hx.1 h.symm
  · cases h
  · rw [refFits_off (fun e => absurd e.1 (by decide)), if_neg (by decide)] at h
    exact hC.2 h.1
theorem elem_91 (x : Bs) : elemL (91 :: x) = x := by unfold elemL; simp
theorem known_6 {L : List ClI} (hC : Closed L) (hR : Rooted L) (hN : ∀ s ∈ names L, ¬ Circ L s) {x : Bs} (hx : KnownF L x) : FitsP L (91 :: x) (91 :: ofL nObject) ↔ refB x = true := by
  constructor
  · rintro (h | h | ⟨h, _⟩ | ⟨_, h⟩)
    · cases h
    · injection h with _ h
      rw [h]; exact obj_ref
    · injection h with h _
      exact absurd h (by decide)
    · rcases Classical.em (refB x = true) with e | e
      · exact e
      · rw [refFits_off (fun k => e (by rw [elem_91] at k; exact k.1)), if_pos (show (91 :: x).head? = some 91 from rfl)] at h
        exact absurd h (by decide)
  · intro h
    refine .inr (.inr (.inr ⟨fun e => by injection e with e _; exact absurd e (by decide), ?_⟩))
    rw [refFits_on (by rw [elem_91]; exact h) (by rw [elem_91]; exact obj_ref), elem_91, elem_91]
    exact known_obj hR hN hx h
/-- r tells whether p. -/
structure Tells (r : Bool) (p : Prop) : Prop where
  iff : r = true ↔ p
theorem fits_r (B tb : Nat) (L : List ClI) (t u : Bs) (tv uv : ByteArray) (r : Bool) (w : World) (hT : Hid (TreeOK B w tb L)) (ht : tv = tx t) (hu : uv = tx u) (hr : Tells r (FitsP L t u)) (hlt : t.length ≤ 281474976710656) (hlu : u.length ≤ 281474976710656) :
    Calls Tryz.prog 17 #[.pointer (some ⟨tb, 0, none⟩), .string tv, .string uv] w fun e w' => e = .returned (.bool r) ∧ Below w.heap.size w w' := by
  subst ht
  subst hu
  refine (fits_any B tb L t u w hT hlt hlu).mono fun e w' h => ?_
  obtain ⟨r', h1, h2, h3⟩ := h
  have : r' = r := by rw [Bool.eq_iff_iff, h2, hr.iff]
  rw [h1, this]
  exact ⟨rfl, h3⟩
end Go.Proofs.YtpdnonlelocfbaaGreatDoor
