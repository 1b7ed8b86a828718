/- Fits: which type fits where another one is wanted. -/
import Derived.Test.YtkphpihggbbpkaaKinAsk
import Derived.Test.YtkphpihggbbpkaaKinDesc
import Derived.Deep.RegionHeld3
import Derived.Deep.Cut
namespace Go.Proofs.Ytkphpihggbbpkaa
open Go.RowKit Go Go.Maps
set_option linter.unusedVariables false

/-- As many [ are taken off both as there are references behind. -/
def strip : Bs → Bs → Bs × Bs
  | [], w => ([], w)
  | c :: r, w => if refB (elemL (c :: r)) = true ∧ refB (elemL w) = true then strip r (elemL w) else (c :: r, w)
theorem elem_cons {c : UInt8} {r : Bs} (h : refB (elemL (c :: r)) = true) : elemL (c :: r) = r := by
  unfold elemL at h ⊢
  split
  · simp
  · rename_i hn
    rw [if_neg hn] at h
    simp [refB] at h
theorem strip_on {a b : Bs} (h1 : refB (elemL a) = true) (h2 : refB (elemL b) = true) : strip a b = strip (elemL a) (elemL b) ∧ (elemL a).length < a.length := by
  cases a with
  | nil => simp [elemL, refB] at h1
  | cons c r =>
    have he := elem_cons h1
    constructor
    · rw [strip, if_pos ⟨h1, h2⟩, he]
    · rw [he]; simp
theorem strip_off {a b : Bs} (h : ¬ (refB (elemL a) = true ∧ refB (elemL b) = true)) : strip a b = (a, b) := by
  cases a with
  | nil => rfl
  | cons c r => rw [strip, if_neg h]
def RefFits (L : List ClI) (t w : Bs) : Prop :=
  if (strip t w).1.head? = some 91 then (strip t w).2 = ofL nObject else classL (strip t w).1 ∈ names L ∧ Rch L (classL (strip t w).1) (classL (strip t w).2)
def FitsP (L : List ClI) (t w : Bs) : Prop := w = [] ∨ t = w ∨ (t = [78] ∧ refB w = true) ∨ (t ≠ [78] ∧ RefFits L t w)
def strLen : Value → Nat
  | .string s => s.size
  | _ => 0
theorem of_obj (w : World) : Calls Try.prog 55 #[.string ⟨#[79, 98, 106, 101, 99, 116]⟩] w fun e w' => e = .returned (.string (tx (ofL nObject))) ∧ w = w' :=
  of_any ⟨#[79, 98, 106, 101, 99, 116]⟩ w (by decide)
theorem zero_set (w : World) : (zeroValue 67).run Try.prog w = .ok (.map none) w := by kernel_rfl
theorem elemL_len (a : Bs) : (elemL a).length ≤ a.length := by
  unfold elemL
  split
  · simp
  · simp
theorem classL_len (a : Bs) : (classL a).length ≤ a.length := by
  unfold classL
  split
  · rw [List.length_dropLast, List.length_drop]; omega
  · simp
set_option maxHeartbeats 8000000 in
set_option maxRecDepth 100000 in
theorem refFits_any (B tb : Nat) (L : List ClI) (t u : Bs) (w : World) (hT : Hid (TreeOK B w tb L)) (ht : t.length ≤ 281474976710656) (hu : u.length ≤ 281474976710656) :
    Calls Try.prog 32 #[.pointer (some ⟨tb, 0, none⟩), .string (tx t), .string (tx u)] w fun e w' => ∃ r : Bool, e = .returned (.bool r) ∧ (r = true ↔ RefFits L t u) ∧ Below w.heap.size w w' := by
  have HTL := lhid ht
  have HUL := lhid hu
  clear ht hu
  go_enter Try.func32, Try.ntmps32
  go_wp2_with fail
  go_loopw [1, 2] (fun x y wr => ∃ a b : Bs, x = .string (tx a) ∧ y = .string (tx b) ∧ Hid (strip a b = strip t u) ∧ Hid (a.length ≤ 281474976710656 ∧ b.length ≤ 281474976710656) ∧ w = wr) (fun x _ _ => strLen x)
  case atStart => exact ⟨t, u, rfl, rfl, lhid rfl, lhid ⟨HTL.out, HUL.out⟩, rfl⟩
  case round =>
    obtain ⟨a, b, rfl, rfl, HS, HL, rfl⟩ := hrel
    go_wp2_with fail
    with_reducible refine (elem_tx a _).mono ?_
    rintro e w1 ⟨rfl, rfl⟩
    go_wp2_with fail
    with_reducible refine (isRef_tx (elemL a) _).mono ?_
    rintro e w1 ⟨rfl, rfl⟩
    obtain ⟨r1, h1⟩ : ∃ r, refB (elemL a) = r := ⟨_, rfl⟩
    obtain ⟨r2, h2⟩ : ∃ r, refB (elemL b) = r := ⟨_, rfl⟩
    have H1 := lhid h1
    have H2 := lhid h2
    rw [h1]
    clear h1 h2
    cases r1 with
    | false =>
      go_wp2_with fail
      have HOFF : Hid (strip t u = (a, b)) := lhid (by rw [← HS.out]; exact strip_off (by rw [H1.out, H2.out]; simp))
      obtain ⟨q, hq⟩ : ∃ r, (a.head? == some 91) = r := ⟨_, rfl⟩
      have HQ := lhid hq
      clear hq
      with_reducible refine (hasPre_tx a 91 q _ HQ).mono ?_
      rintro e w1 ⟨rfl, rfl⟩
      cases q with
      | true =>
        obtain ⟨r, hr⟩ : ∃ r, decide (b = ofL nObject) = r := ⟨_, rfl⟩
        have HR := lhid hr
        have e1 : ((tx b).toList == (tx (ofL nObject)).toList) = r := by
          rw [tx_toL, tx_toL, ← hr, Bool.eq_iff_iff]
          simp
        clear hr
        go_wp2_with fail
        with_reducible refine (of_obj _).mono ?_
        rintro e w1 ⟨rfl, rfl⟩
        go_wp2_with fail
        go_ret
        have hi : RefFits L t u ↔ r = true := by
          unfold RefFits
          rw [HOFF.out, if_pos (by simpa using HQ.out), ← HR.out]
          simp
        have HI := lhid hi
        clear hi
        cases r
        · exact ⟨false, by rfl, ⟨fun e => (by cases e), fun h => (HI.out.1 h)⟩, Below.refl _ _⟩
        · exact ⟨true, by rfl, ⟨fun _ => HI.out.2 rfl, fun _ => rfl⟩, Below.refl _ _⟩
      | false =>
        have hal : a.length ≤ maxLen := by have := HL.out.1; unfold maxLen; omega
        have hbl : b.length ≤ maxLen := by have := HL.out.2; unfold maxLen; omega
        have hcl : (classL a).length ≤ maxLen := Nat.le_trans (classL_len a) hal
        have hcb : (classL b).length ≤ maxLen := Nat.le_trans (classL_len b) hbl
        obtain ⟨⟨cb, ab, n, v0, g1, g2, g3, f, hm, hfs⟩, g6⟩ := hT.out
        have HM := lhid hm
        have t2 := heap_cell (i := 2) g1 rfl
        have HRF : Hid (RefFits L t u ↔ classL a ∈ names L ∧ Rch L (classL a) (classL b)) := lhid (by
          unfold RefFits
          rw [HOFF.out, if_neg (by intro h; rw [show a.head? = some 91 from h] at HQ; exact absurd HQ.out (by simp))])
        clear g1 g2 g3 g6 hm
        go_upto_region 5 with fail
        by_cases hn : classL a ∈ names L
        · obtain ⟨sb, S, q3, q4, q5, q6⟩ := (hfs _).1 hn
          have HN := lhid hn
          have HFU := lhid q3
          have HSV : Hid (SV w.drew sb S) := lhid q4
          have HQ6 := lhid q6
          clear hn q3 q4 q5 q6 hfs
          have hlk : ∀ w' : World, Below w.heap.size w w' → (w'.cell? ⟨tb, 2, none⟩ = some (.map (some ab)) ∧ (Instr.lookup 59 (.map (some ab)) (.string (tx (classL a))) false).run Try.prog w' = .ok (.map (some sb)) w') := fun w' hb => ⟨(hb.cell (p := ⟨tb, 2, none⟩) (cell_lt t2)).trans t2, by
            have := ((HM.out.below hb).look und_am (zero_set w') hcl).1
            rw [HFU.out] at this
            exact this⟩
          have HLK := lhid hlk
          clear hlk t2
          go_region_held3 (fun w' => w'.cell? ⟨tb, 2, none⟩ = some (.map (some ab)) ∧ (Instr.lookup 59 (.map (some ab)) (.string (tx (classL a))) false).run Try.prog w' = .ok (.map (some sb)) w') (first | exact HLK.out _ (Below.drew (Below.refl _ _)) | exact HLK.out _ hb7 | exact HLK.out _ (Below.drew hb7)) (first
            | ((with_reducible refine (class_tx a _ hal).mono ?_); rintro e w5 ⟨rfl, rfl⟩)
            | ((with_reducible refine (class_tx b _ hbl).mono ?_); rintro e w5 ⟨rfl, rfl⟩)
            | ((with_reducible refine (has_any sb S (classL b) _ HSV hcb).mono ?_); rintro e w7 ⟨rfl, hb7'⟩; have hb7 : Below w.heap.size w w7 := ⟨hb7'.os, hb7'.tape, hb7'.output, hb7'.size, hb7'.block⟩))
          all_goals go_wp2_with fail
          all_goals go_ret
          all_goals exact ⟨decide (classL b ∈ S), by rfl, by rw [HRF.out, decide_eq_true_iff, HQ6.out]; exact ⟨fun h => ⟨HN.out, h⟩, fun h => h.2⟩, hb7⟩
        · have HN := lhid hn
          have HFU := lhid ((hfs _).2 hn)
          clear hn hfs
          have hlk : ∀ w' : World, Below w.heap.size w w' → (w'.cell? ⟨tb, 2, none⟩ = some (.map (some ab)) ∧ (Instr.lookup 59 (.map (some ab)) (.string (tx (classL a))) false).run Try.prog w' = .ok (.map none) w') := fun w' hb => ⟨(hb.cell (p := ⟨tb, 2, none⟩) (cell_lt t2)).trans t2, by
            have := ((HM.out.below hb).look und_am (zero_set w') hcl).1
            rw [HFU.out] at this
            exact this⟩
          have HLK := lhid hlk
          clear hlk t2
          go_region_held3 (fun w' => w'.cell? ⟨tb, 2, none⟩ = some (.map (some ab)) ∧ (Instr.lookup 59 (.map (some ab)) (.string (tx (classL a))) false).run Try.prog w' = .ok (.map none) w') (first | exact HLK.out _ (Below.drew (Below.refl _ _)) | exact HLK.out _ hb7 | exact HLK.out _ (Below.drew hb7)) (first
            | ((with_reducible refine (class_tx a _ hal).mono ?_); rintro e w5 ⟨rfl, rfl⟩)
            | ((with_reducible refine (class_tx b _ hbl).mono ?_); rintro e w5 ⟨rfl, rfl⟩)
            | ((with_reducible refine (has_nil (classL b) _ hcb).mono ?_); rintro e w7 ⟨rfl, hb7'⟩; have hb7 : Below w.heap.size w w7 := ⟨hb7'.os, hb7'.tape, hb7'.output, hb7'.size, hb7'.block⟩))
          all_goals go_wp2_with fail
          all_goals go_ret
          all_goals exact ⟨false, by rfl, ⟨fun e => (by cases e), fun h => absurd (HRF.out.1 h).1 HN.out⟩, hb7⟩
    | true =>
     go_wp2_with fail
     with_reducible refine (elem_tx b _).mono ?_
     rintro e w1 ⟨rfl, rfl⟩
     go_wp2_with fail
     with_reducible refine (isRef_tx (elemL b) _).mono ?_
     rintro e w1 ⟨rfl, rfl⟩
     rw [H2.out]
     cases r2 with
     | true =>
       have HON := lhid (strip_on H1.out H2.out)
       go_wp2_with fail
       with_reducible refine (elem_tx a _).mono ?_
       rintro e w1 ⟨rfl, rfl⟩
       go_wp2_with fail
       with_reducible refine (elem_tx b _).mono ?_
       rintro e w1 ⟨rfl, rfl⟩
       go_wp2_with fail
       go_roundw
       case rel => exact ⟨elemL a, elemL b, rfl, rfl, lhid (by rw [← HS.out]; exact HON.out.1.symm), lhid ⟨Nat.le_trans (elemL_len a) HL.out.1, Nat.le_trans (elemL_len b) HL.out.2⟩, by first | rfl | trivial⟩
       case measure => simp only [strLen, tx_size]; exact HON.out.2
     | false =>
       go_wp2_with fail
       have HOFF : Hid (strip t u = (a, b)) := lhid (by rw [← HS.out]; exact strip_off (by rw [H1.out, H2.out]; simp))
       obtain ⟨q, hq⟩ : ∃ r, (a.head? == some 91) = r := ⟨_, rfl⟩
       have HQ := lhid hq
       clear hq
       with_reducible refine (hasPre_tx a 91 q _ HQ).mono ?_
       rintro e w1 ⟨rfl, rfl⟩
       cases q with
       | true =>
         obtain ⟨r, hr⟩ : ∃ r, decide (b = ofL nObject) = r := ⟨_, rfl⟩
         have HR := lhid hr
         have e1 : ((tx b).toList == (tx (ofL nObject)).toList) = r := by
           rw [tx_toL, tx_toL, ← hr, Bool.eq_iff_iff]
           simp
         clear hr
         go_wp2_with fail
         with_reducible refine (of_obj _).mono ?_
         rintro e w1 ⟨rfl, rfl⟩
         go_wp2_with fail
         go_ret
         have hi : RefFits L t u ↔ r = true := by
           unfold RefFits
           rw [HOFF.out, if_pos (by simpa using HQ.out), ← HR.out]
           simp
         have HI := lhid hi
         clear hi
         cases r
         · exact ⟨false, by rfl, ⟨fun e => (by cases e), fun h => (HI.out.1 h)⟩, Below.refl _ _⟩
         · exact ⟨true, by rfl, ⟨fun _ => HI.out.2 rfl, fun _ => rfl⟩, Below.refl _ _⟩
       | false =>
         have hal : a.length ≤ maxLen := by have := HL.out.1; unfold maxLen; omega
         have hbl : b.length ≤ maxLen := by have := HL.out.2; unfold maxLen; omega
         have hcl : (classL a).length ≤ maxLen := Nat.le_trans (classL_len a) hal
         have hcb : (classL b).length ≤ maxLen := Nat.le_trans (classL_len b) hbl
         obtain ⟨⟨cb, ab, n, v0, g1, g2, g3, f, hm, hfs⟩, g6⟩ := hT.out
         have HM := lhid hm
         have t2 := heap_cell (i := 2) g1 rfl
         have HRF : Hid (RefFits L t u ↔ classL a ∈ names L ∧ Rch L (classL a) (classL b)) := lhid (by
           unfold RefFits
           rw [HOFF.out, if_neg (by intro h; rw [show a.head? = some 91 from h] at HQ; exact absurd HQ.out (by simp))])
         clear g1 g2 g3 g6 hm
         go_upto_region 5 with fail
         by_cases hn : classL a ∈ names L
         · obtain ⟨sb, S, q3, q4, q5, q6⟩ := (hfs _).1 hn
           have HN := lhid hn
           have HFU := lhid q3
           have HSV : Hid (SV w.drew sb S) := lhid q4
           have HQ6 := lhid q6
           clear hn q3 q4 q5 q6 hfs
           have hlk : ∀ w' : World, Below w.heap.size w w' → (w'.cell? ⟨tb, 2, none⟩ = some (.map (some ab)) ∧ (Instr.lookup 59 (.map (some ab)) (.string (tx (classL a))) false).run Try.prog w' = .ok (.map (some sb)) w') := fun w' hb => ⟨(hb.cell (p := ⟨tb, 2, none⟩) (cell_lt t2)).trans t2, by
             have := ((HM.out.below hb).look und_am (zero_set w') hcl).1
             rw [HFU.out] at this
             exact this⟩
           have HLK := lhid hlk
           clear hlk t2
           go_region_held3 (fun w' => w'.cell? ⟨tb, 2, none⟩ = some (.map (some ab)) ∧ (Instr.lookup 59 (.map (some ab)) (.string (tx (classL a))) false).run Try.prog w' = .ok (.map (some sb)) w') (first | exact HLK.out _ (Below.drew (Below.refl _ _)) | exact HLK.out _ hb7 | exact HLK.out _ (Below.drew hb7)) (first
             | ((with_reducible refine (class_tx a _ hal).mono ?_); rintro e w5 ⟨rfl, rfl⟩)
             | ((with_reducible refine (class_tx b _ hbl).mono ?_); rintro e w5 ⟨rfl, rfl⟩)
             | ((with_reducible refine (has_any sb S (classL b) _ HSV hcb).mono ?_); rintro e w7 ⟨rfl, hb7'⟩; have hb7 : Below w.heap.size w w7 := ⟨hb7'.os, hb7'.tape, hb7'.output, hb7'.size, hb7'.block⟩))
           all_goals go_wp2_with fail
           all_goals go_ret
           all_goals exact ⟨decide (classL b ∈ S), by rfl, by rw [HRF.out, decide_eq_true_iff, HQ6.out]; exact ⟨fun h => ⟨HN.out, h⟩, fun h => h.2⟩, hb7⟩
         · have HN := lhid hn
           have HFU := lhid ((hfs _).2 hn)
           clear hn hfs
           have hlk : ∀ w' : World, Below w.heap.size w w' → (w'.cell? ⟨tb, 2, none⟩ = some (.map (some ab)) ∧ (Instr.lookup 59 (.map (some ab)) (.string (tx (classL a))) false).run Try.prog w' = .ok (.map none) w') := fun w' hb => ⟨(hb.cell (p := ⟨tb, 2, none⟩) (cell_lt t2)).trans t2, by
             have := ((HM.out.below hb).look und_am (zero_set w') hcl).1
             rw [HFU.out] at this
             exact this⟩
           have HLK := lhid hlk
           clear hlk t2
           go_region_held3 (fun w' => w'.cell? ⟨tb, 2, none⟩ = some (.map (some ab)) ∧ (Instr.lookup 59 (.map (some ab)) (.string (tx (classL a))) false).run Try.prog w' = .ok (.map none) w') (first | exact HLK.out _ (Below.drew (Below.refl _ _)) | exact HLK.out _ hb7 | exact HLK.out _ (Below.drew hb7)) (first
             | ((with_reducible refine (class_tx a _ hal).mono ?_); rintro e w5 ⟨rfl, rfl⟩)
             | ((with_reducible refine (class_tx b _ hbl).mono ?_); rintro e w5 ⟨rfl, rfl⟩)
             | ((with_reducible refine (has_nil (classL b) _ hcb).mono ?_); rintro e w7 ⟨rfl, hb7'⟩; have hb7 : Below w.heap.size w w7 := ⟨hb7'.os, hb7'.tape, hb7'.output, hb7'.size, hb7'.block⟩))
           all_goals go_wp2_with fail
           all_goals go_ret
           all_goals exact ⟨false, by rfl, ⟨fun e => (by cases e), fun h => absurd (HRF.out.1 h).1 HN.out⟩, hb7⟩
set_option maxHeartbeats 8000000 in
set_option maxRecDepth 100000 in
theorem fits_any (B tb : Nat) (L : List ClI) (t u : Bs) (w : World) (hT : Hid (TreeOK B w tb L)) (ht : t.length ≤ 281474976710656) (hu : u.length ≤ 281474976710656) :
    Calls Try.prog 14 #[.pointer (some ⟨tb, 0, none⟩), .string (tx t), .string (tx u)] w fun e w' => ∃ r : Bool, e = .returned (.bool r) ∧ (r = true ↔ FitsP L t u) ∧ Below w.heap.size w w' := by
  have HTL := lhid ht
  have HUL := lhid hu
  clear ht hu
  obtain ⟨r1, h1⟩ : ∃ r, decide (u = []) = r := ⟨_, rfl⟩
  obtain ⟨r2, h2⟩ : ∃ r, decide (t = u) = r := ⟨_, rfl⟩
  obtain ⟨r3, h3⟩ : ∃ r, decide (t = [78]) = r := ⟨_, rfl⟩
  have e1 : ((tx u).toList == []) = r1 := by rw [tx_toL, ← h1, Bool.eq_iff_iff]; simp
  have e2 : ((tx t).toList == (tx u).toList) = r2 := by rw [tx_toL, tx_toL, ← h2, Bool.eq_iff_iff]; simp
  have e3 : ((tx t).toList == [78]) = r3 := by rw [tx_toL, ← h3, Bool.eq_iff_iff]; simp
  have H1 := lhid h1
  have H2 := lhid h2
  have H3 := lhid h3
  clear h1 h2 h3
  go_enter Try.func14, Try.ntmps14
  cases r1 with
  | true =>
    go_wp2_with fail
    go_ret
    first
      | exact ⟨true, by rfl, ⟨fun _ => .inl (by simpa using H1.out), fun _ => rfl⟩, Below.refl _ _⟩
      | exact .inr ⟨by rfl, .inl (by simpa using H1.out), Below.refl _ _⟩
  | false =>
    cases r2 with
    | true =>
      go_wp2_with fail
      go_ret
      first
        | exact ⟨true, by rfl, ⟨fun _ => .inr (.inl (by simpa using H2.out)), fun _ => rfl⟩, Below.refl _ _⟩
        | exact .inr ⟨by rfl, .inr (.inl (by simpa using H2.out)), Below.refl _ _⟩
    | false =>
      have hn1 : ¬ u = [] := by simpa using H1.out
      have hn2 : ¬ t = u := by simpa using H2.out
      have HN1 := lhid hn1
      have HN2 := lhid hn2
      clear hn1 hn2
      cases r3 with
      | true =>
        have h3 : t = [78] := by simpa using H3.out
        have HT3 := lhid h3
        clear h3
        go_wp2_with fail
        with_reducible refine (isRef_tx u _).mono ?_
        rintro e w1 ⟨rfl, rfl⟩
        obtain ⟨q, hq⟩ : ∃ q, refB u = q := ⟨_, rfl⟩
        have HQ := lhid hq
        rw [hq]
        clear hq
        go_wp2_with fail
        go_ret
        have hi : q = true ↔ FitsP L t u := by
          unfold FitsP
          rw [← HQ.out]
          constructor
          · intro h; exact .inr (.inr (.inl ⟨HT3.out, h⟩))
          · rintro (h | h | h | h)
            · exact absurd h HN1.out
            · exact absurd h HN2.out
            · exact h.2
            · exact absurd HT3.out h.1
        exact ⟨q, by rfl, hi, Below.refl _ _⟩
      | false =>
        have h3 : ¬ t = [78] := by simpa using H3.out
        have HT3 := lhid h3
        clear h3
        go_wp2_with fail
        with_reducible refine (refFits_any B tb L t u _ hT HTL.out HUL.out).mono ?_
        rintro e w1 ⟨q, rfl, hq, hb⟩
        have HB := lhid hb
        have HQ := lhid hq
        clear hb hq
        go_wp2_with fail
        go_ret
        have hi : q = true ↔ FitsP L t u := by
          unfold FitsP
          rw [HQ.out]
          constructor
          · intro h; exact .inr (.inr (.inr ⟨HT3.out, h⟩))
          · rintro (h | h | h | h)
            · exact absurd h HN1.out
            · exact absurd h HN2.out
            · exact absurd h.1 HT3.out
            · exact h.2
        exact ⟨q, by rfl, hi, HB.out⟩
end Go.Proofs.Ytkphpihggbbpkaa
