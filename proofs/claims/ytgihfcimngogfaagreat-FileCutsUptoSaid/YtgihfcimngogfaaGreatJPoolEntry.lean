/- Contracts of readNames and readEntry. -/
import Derived.Test.YtgihfcimngogfaaGreatJPoolTake
import Derived.Deep.RegionWith
namespace Go.Proofs.YtgihfcimngogfaaGreat
open Go.RowKit Go
set_option linter.unusedVariables false
structure Upto (B R : Nat) (w w' : World) : Prop where
 os : w'.os = w.os
 tape : w'.tape = w.tape
 output : w'.output = w.output
 size : w.heap.size ≤ w'.heap.size
 block : ∀ k, k < B → k ≠ R → w'.heap[k]? = w.heap[k]?
theorem Upto.refl (B R : Nat) (w : World) : Upto B R w w := ⟨rfl, rfl, rfl, Nat.le_refl _, fun _ _ _ => rfl⟩
theorem Upto.trans {B R : Nat} {a b c : World} (h : Upto B R a b) (k : Upto B R b c) : Upto B R a c :=
 ⟨k.os.trans h.os, k.tape.trans h.tape, k.output.trans h.output, Nat.le_trans h.size k.size, fun i hi hr => (k.block i hi hr).trans (h.block i hi hr)⟩
theorem Only.upto {B R : Nat} {w w' : World} (h : Only R w w') (hB : B ≤ w.heap.size) : Upto B R w w' := ⟨h.os, h.tape, h.output, h.size, fun k hk => h.block k (by omega)⟩
theorem Upto.only {B R : Nat} {w w' : World} (h : Upto B R w w') (hB : w.heap.size ≤ B) : Only R w w' := ⟨h.os, h.tape, h.output, h.size, fun k hk => h.block k (by omega)⟩
theorem Upto.step {B R : Nat} {a w w' : World} (h : Upto B R a w) (k : Only R w w') (hB : B ≤ a.heap.size) : Upto B R a w' := h.trans (k.upto (Nat.le_trans hB h.size))
theorem Upto.mono {B B' R : Nat} {w w' : World} (h : Upto B R w w') (hB : B' ≤ B) : Upto B' R w w' := ⟨h.os, h.tape, h.output, h.size, fun k hk => h.block k (by omega)⟩
theorem Upto.setCell {B R : Nat} {a w : World} (h : Upto B R a w) {p : Addr} (hp : p.block = R ∨ B ≤ p.block) (u : Value) : Upto B R a (w.setCell p u) :=
 ⟨h.os, h.tape, h.output, by have := h.size; simpa [World.setCell] using this, fun k hk hr => by rw [Below.heap_setCell _ _ _ _ (by omega)]; exact h.block k hk hr⟩
theorem Upto.drewN {B R : Nat} {a w : World} (h : Upto B R a w) (n : Nat) : Upto B R a (w.drewN n) := ⟨h.os, h.tape, h.output, h.size, h.block⟩
theorem Upto.drew {B R : Nat} {a w : World} (h : Upto B R a w) : Upto B R a w.drew := ⟨h.os, h.tape, h.output, h.size, h.block⟩
theorem Upto.alloc {B R : Nat} {a w : World} (h : Upto B R a w) (hB : B ≤ a.heap.size) (o : Obj) : Upto B R a (w.alloc o) :=
 h.step ((Only.refl R w).alloc o) hB
def entV (x : Ent) : List Value := [.int .i64 x.kind, .int .i64 x.num, .string (tx x.text), .string ⟨#[]⟩, .string ⟨#[]⟩, .int .i64 x.a, .int .i64 x.b, .int .i64 x.d]
def EntAt (w : World) (C T : Nat) (x : Ent) : Prop := w.heap[C]? = some (.cells (entV x).toArray T (0, 0))
def setN (x : Ent) (i : Nat) (n : Nat) : Ent := if i = 0 then { x with a := n } else if i = 1 then { x with b := n } else { x with d := n }
theorem EntAt.cell {w : World} {C T : Nat} {x : Ent} (h : EntAt w C T x) {i : Nat} {v : Value} (hv : (entV x)[i]? = some v) : w.cell? ⟨C, i, none⟩ = some v := heap_cell h (by simpa using hv)
theorem EntAt.fz {w : World} {C T : Nat} {x : Ent} (h : EntAt w C T x) (i : Nat) : w.frozen? ⟨C, i, none⟩ = false := heap_thaw h i
theorem EntAt.drewN {w : World} {C T : Nat} {x : Ent} (h : EntAt w C T x) (n : Nat) : EntAt (w.drewN n) C T x := h
theorem EntAt.drew {w : World} {C T : Nat} {x : Ent} (h : EntAt w C T x) : EntAt w.drew C T x := h
theorem EntAt.keep {w w' : World} {C T R : Nat} {x : Ent} (h : EntAt w C T x) (ho : Only R w w') (hr : C ≠ R) : EntAt w' C T x := Only.keep ho h hr
theorem EntAt.lt {w : World} {C T : Nat} {x : Ent} (h : EntAt w C T x) : C < w.heap.size := heap_lt h
theorem EntAt.setN {w : World} {C T : Nat} {x : Ent} (h : EntAt w C T x) (i n : Nat) (hi : i < 3) : EntAt (w.setCell ⟨C, 5 + i, none⟩ (.int .i64 n)) C T (setN x i n) := by
 have := heap_set (i := 5 + i) h (.int .i64 n)
 unfold EntAt
 rw [this]
 match i, hi with
 | 0, _ => rfl
 | 1, _ => rfl
 | 2, _ => rfl
theorem EntAt.some5 {w : World} {C T : Nat} {x : Ent} (h : EntAt w C T x) (i : Nat) (hi : i < 3) : ∃ v, w.cell? ⟨C, 5 + i, none⟩ = some v := by
 match i, hi with
 | 0, _ => exact ⟨_, h.cell rfl⟩
 | 1, _ => exact ⟨_, h.cell rfl⟩
 | 2, _ => exact ⟨_, h.cell rfl⟩
def namS : Nat → St → St
 | 0, s => s
 | k + 1, s => numS (namS k s) 2
def namE (x : Ent) (s : St) : Nat → Ent
 | 0 => x
 | k + 1 => setN (namE x s k) k (numN (namS k s) 2)
set_option maxHeartbeats 4000000 in
set_option maxRecDepth 100000 in
theorem readNames_any (B R C : Nat) (x : Ent) (s : St) (n : Nat) (hn : n ≤ 3) (w : World) (h : Rdr w R s) (hC : EntAt w C 144 x) (hB : B ≤ w.heap.size) (hBC : B ≤ C) (hRC : C ≠ R) :
  Calls Tryz.prog 120 #[.pointer (some ⟨C, 0, none⟩), .pointer (some ⟨R, 0, none⟩), .int .i64 n] w fun e w' => e = .returned (.tuple #[]) ∧ Rdr w' R (namS n s) ∧ EntAt w' C 144 (namE x s n) ∧ Upto B R w w' := by
 have HR := lhid h
 have HC := lhid hC
 clear h hC
 go_enter Tryz.func120, Tryz.ntmps120
 go_wp2_with fail
 go_loopw [8] (fun i wr => ∃ k : Nat, k ≤ n ∧ i = .int .i64 k ∧ Hid (Rdr wr R (namS k s)) ∧ Hid (EntAt wr C 144 (namE x s k)) ∧ Hid (Upto B R w wr)) (fun i _ => n - (intOf i).toNat)
 case atStart => exact ⟨0, Nat.zero_le _, rfl, HR, HC, lhid (Upto.refl _ _ _)⟩
 case round =>
  obtain ⟨k, hk, rfl, HR, HC, HU⟩ := hrel
  by_cases hlt : k < n
  ·have HRd : Hid (Rdr wr.drew R (namS k s)) := HR
   have HCd : Hid (EntAt wr.drew C 144 (namE x s k)) := HC
   have hk3 : k < 3 := by omega
   have k3 : (k : Int) < 3 := by omega
   have k0 : (0 : Int) ≤ k := by omega
   go_wp2_with fail
   go_region_with (go_at_call 103; (with_reducible refine (num_any R (namS k s) 2 _ HRd.out).mono ?_); rintro e w' ⟨rfl, hr, ho⟩; have HR2 := lhid hr; have HO := lhid ho; have HC2 := lhid (HCd.out.keep ho hRC); clear hr ho; obtain ⟨v5, h5⟩ := HC2.out.some5 k hk3; have f5 := HC2.out.fz (5 + k))
   go_wp2_with fail
   go_roundw
   case rel =>
    refine ⟨k + 1, by omega, by go_num, HR2.out.other (by simp; omega) _, ?_, (HU.out.drew.step HO.out hB).setCell (.inr (by simpa using hBC)) _⟩
    have hb := num2_lt (namS k s)
    have he : wrap64 ((numN (namS k s) 2 : Nat) : Int) = numN (namS k s) 2 := IntWalk.wrap64_in _ (by omega)
    rw [he]
    exact HC2.out.setN k _ hk3
   case measure => simp [intOf]; omega
  ·obtain rfl : n = k := by omega
   go_wp2_with fail
   go_end0
   exact ⟨rfl, HR.out, HC.out, HU.out⟩
theorem EntAt.set {w : World} {C T : Nat} {x : Ent} (h : EntAt w C T x) (i : Nat) (v : Value) (y : Ent) (hy : (entV x).toArray.setIfInBounds i v = (entV y).toArray) : EntAt (w.setCell ⟨C, i, none⟩ v) C T y := by
 have := heap_set (i := i) h v
 unfold EntAt
 rw [this, hy]
theorem EntAt.other {w : World} {C T : Nat} {x : Ent} (h : EntAt w C T x) {p : Addr} (hp : C ≠ p.block) (v : Value) : EntAt (w.setCell p v) C T x := by
 unfold EntAt
 rw [Below.heap_setCell _ _ _ _ hp]
 exact h
def EntOut (R : Nat) (s : St) (w : World) (e : Ending) (w' : World) : Prop :=
 (∃ y : Ent, e = .returned (.tuple #[.agg #[.int .i64 y.kind, .int .i64 y.num, .string (tx y.text), .string ⟨#[]⟩, .string ⟨#[]⟩, .int .i64 y.a, .int .i64 y.b, .int .i64 y.d], .int .i64 (entX s)]) ∧ (entX s = 0 → y = entE s)) ∧ Rdr w' R (entS s) ∧ Only R w w'
theorem new_two (w : World) (o o' : Obj) : (((w.alloc o).alloc o').heap[w.heap.size + 1]?) = some o' := by
 have := heap_alloc_new (w.alloc o) o'
 simpa using this
theorem EntAt.cells {w : World} {C T : Nat} {x : Ent} (h : EntAt w C T x) :
  w.cell? ⟨C, 0, none⟩ = some (.int .i64 x.kind) ∧ w.cell? ⟨C, 1, none⟩ = some (.int .i64 x.num) ∧ w.cell? ⟨C, 2, none⟩ = some (.string (tx x.text)) ∧ w.cell? ⟨C, 3, none⟩ = some (.string ⟨#[]⟩) ∧ w.cell? ⟨C, 4, none⟩ = some (.string ⟨#[]⟩) ∧ w.cell? ⟨C, 5, none⟩ = some (.int .i64 x.a) ∧ w.cell? ⟨C, 6, none⟩ = some (.int .i64 x.b) ∧ w.cell? ⟨C, 7, none⟩ = some (.int .i64 x.d) :=
 ⟨h.cell rfl, h.cell rfl, h.cell rfl, h.cell rfl, h.cell rfl, h.cell rfl, h.cell rfl, h.cell rfl⟩
theorem EntAt.thaw {w : World} {C T : Nat} {x : Ent} (h : EntAt w C T x) : ∀ i, w.frozen? ⟨C, i, none⟩ = false := fun i => heap_thaw h i
theorem readNames_1 (B R C : Nat) (x : Ent) (s : St) (w : World) (h : Rdr w R s) (hC : EntAt w C 144 x) (hB : B ≤ w.heap.size) (hBC : B ≤ C) (hRC : C ≠ R) :
  Calls Tryz.prog 120 #[.pointer (some ⟨C, 0, none⟩), .pointer (some ⟨R, 0, none⟩), .int .i64 1] w fun e w' => e = .returned (.tuple #[]) ∧ Rdr w' R (numS s 2) ∧ EntAt w' C 144 ⟨x.kind, x.num, x.text, numN s 2, x.b, x.d⟩ ∧ Upto B R w w' :=
 readNames_any B R C x s 1 (by omega) w h hC hB hBC hRC
theorem readNames_3 (B R C : Nat) (x : Ent) (s : St) (w : World) (h : Rdr w R s) (hC : EntAt w C 144 x) (hB : B ≤ w.heap.size) (hBC : B ≤ C) (hRC : C ≠ R) :
  Calls Tryz.prog 120 #[.pointer (some ⟨C, 0, none⟩), .pointer (some ⟨R, 0, none⟩), .int .i64 3] w fun e w' => e = .returned (.tuple #[]) ∧ Rdr w' R (numS (numS (numS s 2) 2) 2) ∧ EntAt w' C 144 ⟨x.kind, x.num, x.text, numN s 2, numN (numS s 2) 2, numN (numS (numS s 2) 2) 2⟩ ∧ Upto B R w w' :=
 readNames_any B R C x s 3 (by omega) w h hC hB hBC hRC
theorem other_tests (k : Nat) (h : knownK k = false) : ((k : Int) == 1) = false ∧ ((k : Int) == 3) = false ∧ ((k : Int) == 5) = false ∧ ((k : Int) == 7) = false ∧ ((k : Int) == 8) = false ∧ ((k : Int) == 9) = false ∧ ((k : Int) == 10) = false ∧ ((k : Int) == 11) = false := by
 unfold knownK at h
 simp only [Bool.or_eq_false_iff, beq_eq_false_iff_ne] at h
 obtain ⟨⟨⟨⟨⟨⟨⟨h1, h2⟩, h3⟩, h4⟩, h5⟩, h6⟩, h7⟩, h8⟩ := h
 simp only [beq_eq_false_iff_ne]
 omega
theorem known_no (k : Nat) (h : knownK k = false) : k ≠ 1 ∧ k ≠ 3 ∧ k ≠ 5 ∧ k ≠ 7 ∧ k ≠ 8 ∧ k ≠ 9 ∧ k ≠ 10 ∧ k ≠ 11 := by
 unfold knownK at h
 simp only [Bool.or_eq_false_iff, beq_eq_false_iff_ne] at h
 omega
theorem bodyS_other (k : Nat) (s : St) (h : knownK k = false) : bodyS k s = s := by
 have := known_no k h
 unfold bodyS
 rw [if_neg (by omega), if_neg (by omega), if_neg (by omega), if_neg (by omega), if_neg (by omega)]
theorem bodyE_other (k : Nat) (s : St) (h : knownK k = false) : bodyE k s = ⟨k, 0, [], 0, 0, 0⟩ := by
 have := known_no k h
 unfold bodyE
 rw [if_neg (by omega), if_neg (by omega), if_neg (by omega), if_neg (by omega), if_neg (by omega)]
set_option maxHeartbeats 4000000 in
set_option maxRecDepth 100000 in
theorem readEntry_1 (R : Nat) (s : St) (w : World) (h : Rdr w R s) (hk : numN s 1 = 1) :
  Calls Tryz.prog 105 #[.pointer (some ⟨R, 0, none⟩)] w (EntOut R s w) := by
 have hlt := h.lt
 have HK := lhid hk
 have HR := lhid h
 have HS : Hid (entS s = takeS (numS (numS s 1) 2) (numN (numS s 1) 2)) := lhid (by unfold entS; rw [hk]; rfl)
 have HE : Hid (entE s = ⟨1, 0, takeL (numS (numS s 1) 2) (numN (numS s 1) 2), 0, 0, 0⟩) := lhid (by unfold entE; rw [hk]; rfl)
 have HX : Hid (entX s = if (entS s).2 then 11 else 0) := lhid (by unfold entX entS; rw [hk]; rfl)
 clear h hk
 go_enter Tryz.func105, Tryz.ntmps105
 go_wp2_with fail
 with_reducible refine (num_any R s 1 _ ((HR.out.alloc _).alloc _)).mono ?_
 rintro e w1 ⟨rfl, hr, ho⟩
 rw [HK.out]
 have HR1 := lhid hr
 have HC1 : Hid (EntAt w1 (w.heap.size + 1) 144 Ent.zero) := lhid (ho.keep (new_two _ _ _) (by omega))
 have HP1 : Hid (EntAt w1 w.heap.size 144 Ent.zero) := lhid (ho.keep (by rw [Below.heap_alloc _ _ _ (by simp)]; exact heap_alloc_new _ _) (by omega))
 have HU1 := lhid (((((Only.refl R w).alloc _).alloc _).upto (Nat.le_refl _)).step ho (Nat.le_refl _))
 clear hr ho
 have d0 := HC1.out.cell (i := 0) rfl
 have e0 := HC1.out.fz 0
 go_wp2_with fail
 clear d0 e0
 have b2 := num2_lt (numS s 1)
 have hb : wrap64 (numN (numS s 1) 2 : Int) = numN (numS s 1) 2 := IntWalk.wrap64_in _ (by omega)
 with_reducible refine (num_any R (numS s 1) 2 _ (HR1.out.other (by dsimp only; omega) _)).mono ?_
 rintro e w2 ⟨rfl, hr, ho⟩
 have HR2 := lhid hr
 have HC2 := lhid ((HC1.out.set 0 _ ⟨1, 0, [], 0, 0, 0⟩ rfl).keep ho (by omega))
 have HP2 := lhid ((HP1.out.other (by simp) _).keep ho (by omega))
 have HU2 := lhid ((HU1.out.setCell (.inr (by simp)) _).step ho (Nat.le_refl _))
 clear hr ho
 go_wp2_with fail
 with_reducible refine (take_any R (numS (numS s 1) 2) (numN (numS s 1) 2) _ HR2.out).mono ?_
 rintro e w3 ⟨rfl, hr, ho⟩
 have HR3 := lhid hr
 have HC3 := lhid (HC2.out.keep ho (by omega))
 have HP3 := lhid (HP2.out.keep ho (by omega))
 have HU3 := lhid (HU2.out.step ho (Nat.le_refl _))
 clear hr ho
 obtain ⟨a0, a1, a2, a3, a4, a5, a6, a7⟩ := HC3.out.cells
 obtain ⟨p0, p1, p2, p3, p4, p5, p6, p7⟩ := HP3.out.cells
 have fa := HC3.out.thaw
 have fp := HP3.out.thaw
 go_wp2_with fail
 cases hbad : (entS s).2
 ·have HB : Hid ((takeS (numS (numS s 1) 2) (numN (numS s 1) 2)).2 = false) := lhid (by rw [← HS.out]; exact hbad)
  have HXX : Hid (entX s = 0) := lhid (by rw [HX.out, hbad]; rfl)
  clear hbad
  with_reducible refine (cutOff_any R _ false _ (lhid (HR3.out.other (by dsimp only; omega) _)) HB).mono ?_
  rintro e w4 ⟨rfl, n, rfl⟩
  go_wp2_with fail
  refine bodyPost_ret (v := .tuple #[.agg (entV ⟨1, 0, takeL (numS (numS s 1) 2) (numN (numS s 1) 2), 0, 0, 0⟩).toArray, .int .i64 0]) (by simp [results, Tryz.results105, go_sem, entV, Ent.zero, tx_nil, p0, p1, p2, p3, p4, p5, p6, p7]) rfl ?_
  refine ⟨⟨⟨1, 0, takeL (numS (numS s 1) 2) (numN (numS s 1) 2), 0, 0, 0⟩, by rw [HXX.out]; rfl, fun h0 => ?_⟩, ?_, ?_⟩
  ·rw [HE.out]
  ·rw [HS.out]
   repeat (first | refine Rdr.other ?_ (by dsimp only; omega) _ | refine Rdr.drewN ?_ _)
   exact HR3.out
  ·refine Upto.only ?_ (Nat.le_refl _)
   repeat (first | refine Upto.setCell ?_ (.inr (by simp)) _ | refine Upto.drewN ?_ _)
   exact HU3.out
 ·have HB : Hid ((takeS (numS (numS s 1) 2) (numN (numS s 1) 2)).2 = true) := lhid (by rw [← HS.out]; exact hbad)
  have HXX : Hid (entX s = 11) := lhid (by rw [HX.out, hbad]; rfl)
  clear hbad
  with_reducible refine (cutOff_any R _ true _ (lhid (HR3.out.other (by dsimp only; omega) _)) HB).mono ?_
  rintro e w4 ⟨rfl, n, rfl⟩
  go_wp2_with fail
  refine bodyPost_ret (v := .tuple #[.agg (entV Ent.zero).toArray, .int .i64 11]) (by simp [results, Tryz.results105, go_sem, entV, Ent.zero, tx_nil, p0, p1, p2, p3, p4, p5, p6, p7]) rfl ?_
  refine ⟨⟨Ent.zero, by rw [HXX.out]; rfl, fun h0 => ?_⟩, ?_, ?_⟩
  ·rw [HXX.out] at h0; cases h0
  ·rw [HS.out]
   repeat (first | refine Rdr.other ?_ (by dsimp only; omega) _ | refine Rdr.drewN ?_ _)
   exact HR3.out
  ·refine Upto.only ?_ (Nat.le_refl _)
   repeat (first | refine Upto.setCell ?_ (.inr (by simp)) _ | refine Upto.drewN ?_ _)
   exact HU3.out
set_option maxHeartbeats 4000000 in
set_option maxRecDepth 100000 in
theorem readEntry_3 (R : Nat) (s : St) (w : World) (h : Rdr w R s) (hk : numN s 1 = 3) :
  Calls Tryz.prog 105 #[.pointer (some ⟨R, 0, none⟩)] w (EntOut R s w) := by
 have hlt := h.lt
 have HK := lhid hk
 have HR := lhid h
 have HS : Hid (entS s = numS (numS s 1) 4) := lhid (by unfold entS; rw [hk]; rfl)
 have HE : Hid (entE s = ⟨3, wrap64 (wrap32 (numN (numS s 1) 4)), [], 0, 0, 0⟩) := lhid (by unfold entE; rw [hk]; rfl)
 have HX : Hid (entX s = if (entS s).2 then 11 else 0) := lhid (by unfold entX entS; rw [hk]; rfl)
 clear h hk
 go_enter Tryz.func105, Tryz.ntmps105
 go_wp2_with fail
 with_reducible refine (num_any R s 1 _ ((HR.out.alloc _).alloc _)).mono ?_
 rintro e w1 ⟨rfl, hr, ho⟩
 rw [HK.out]
 have HR1 := lhid hr
 have HC1 : Hid (EntAt w1 (w.heap.size + 1) 144 Ent.zero) := lhid (ho.keep (new_two _ _ _) (by omega))
 have HP1 : Hid (EntAt w1 w.heap.size 144 Ent.zero) := lhid (ho.keep (by rw [Below.heap_alloc _ _ _ (by simp)]; exact heap_alloc_new _ _) (by omega))
 have HU1 := lhid (((((Only.refl R w).alloc _).alloc _).upto (Nat.le_refl _)).step ho (Nat.le_refl _))
 clear hr ho
 have d0 := HC1.out.cell (i := 0) rfl
 have e0 := HC1.out.fz 0
 go_wp2_with fail
 clear d0 e0
 with_reducible refine (num_any R (numS s 1) 4 _ (HR1.out.other (by dsimp only; omega) _)).mono ?_
 rintro e w2 ⟨rfl, hr, ho⟩
 have HR2 := lhid hr
 have HC2 := lhid ((HC1.out.set 0 _ ⟨3, 0, [], 0, 0, 0⟩ rfl).keep ho (by omega))
 have HP2 := lhid ((HP1.out.other (by simp) _).keep ho (by omega))
 have HU2 := lhid ((HU1.out.setCell (.inr (by simp)) _).step ho (Nat.le_refl _))
 clear hr ho
 obtain ⟨a0, a1, a2, a3, a4, a5, a6, a7⟩ := HC2.out.cells
 obtain ⟨p0, p1, p2, p3, p4, p5, p6, p7⟩ := HP2.out.cells
 have fa := HC2.out.thaw
 have fp := HP2.out.thaw
 go_wp2_with fail
 cases hbad : (entS s).2
 ·have HB : Hid ((numS (numS s 1) 4).2 = false) := lhid (by rw [← HS.out]; exact hbad)
  have HXX : Hid (entX s = 0) := lhid (by rw [HX.out, hbad]; rfl)
  clear hbad
  with_reducible refine (cutOff_any R _ false _ (lhid (HR2.out.other (by dsimp only; omega) _)) HB).mono ?_
  rintro e w4 ⟨rfl, n, rfl⟩
  go_wp2_with fail
  refine bodyPost_ret (v := .tuple #[.agg (entV ⟨3, wrap64 (wrap32 (numN (numS s 1) 4)), [], 0, 0, 0⟩).toArray, .int .i64 0]) (by simp [results, Tryz.results105, go_sem, entV, Ent.zero, tx_nil, p0, p1, p2, p3, p4, p5, p6, p7]) rfl ?_
  refine ⟨⟨⟨3, wrap64 (wrap32 (numN (numS s 1) 4)), [], 0, 0, 0⟩, by rw [HXX.out]; rfl, fun h0 => ?_⟩, ?_, ?_⟩
  ·rw [HE.out]
  ·rw [HS.out]
   repeat (first | refine Rdr.other ?_ (by dsimp only; omega) _ | refine Rdr.drewN ?_ _)
   exact HR2.out
  ·refine Upto.only ?_ (Nat.le_refl _)
   repeat (first | refine Upto.setCell ?_ (.inr (by simp)) _ | refine Upto.drewN ?_ _)
   exact HU2.out
 ·have HB : Hid ((numS (numS s 1) 4).2 = true) := lhid (by rw [← HS.out]; exact hbad)
  have HXX : Hid (entX s = 11) := lhid (by rw [HX.out, hbad]; rfl)
  clear hbad
  with_reducible refine (cutOff_any R _ true _ (lhid (HR2.out.other (by dsimp only; omega) _)) HB).mono ?_
  rintro e w4 ⟨rfl, n, rfl⟩
  go_wp2_with fail
  refine bodyPost_ret (v := .tuple #[.agg (entV Ent.zero).toArray, .int .i64 11]) (by simp [results, Tryz.results105, go_sem, entV, Ent.zero, tx_nil, p0, p1, p2, p3, p4, p5, p6, p7]) rfl ?_
  refine ⟨⟨Ent.zero, by rw [HXX.out]; rfl, fun h0 => ?_⟩, ?_, ?_⟩
  ·rw [HXX.out] at h0; cases h0
  ·rw [HS.out]
   repeat (first | refine Rdr.other ?_ (by dsimp only; omega) _ | refine Rdr.drewN ?_ _)
   exact HR2.out
  ·refine Upto.only ?_ (Nat.le_refl _)
   repeat (first | refine Upto.setCell ?_ (.inr (by simp)) _ | refine Upto.drewN ?_ _)
   exact HU2.out
set_option maxHeartbeats 4000000 in
set_option maxRecDepth 100000 in
theorem readEntry_5 (R : Nat) (s : St) (w : World) (h : Rdr w R s) (hk : numN s 1 = 5) :
  Calls Tryz.prog 105 #[.pointer (some ⟨R, 0, none⟩)] w (EntOut R s w) := by
 have hlt := h.lt
 have HK := lhid hk
 have HR := lhid h
 have HS : Hid (entS s = numS (numS s 1) 8) := lhid (by unfold entS; rw [hk]; rfl)
 have HE : Hid (entE s = ⟨5, wrap64 (numN (numS s 1) 8), [], 0, 0, 0⟩) := lhid (by unfold entE; rw [hk]; rfl)
 have HX : Hid (entX s = if (entS s).2 then 11 else 0) := lhid (by unfold entX entS; rw [hk]; rfl)
 clear h hk
 go_enter Tryz.func105, Tryz.ntmps105
 go_wp2_with fail
 with_reducible refine (num_any R s 1 _ ((HR.out.alloc _).alloc _)).mono ?_
 rintro e w1 ⟨rfl, hr, ho⟩
 rw [HK.out]
 have HR1 := lhid hr
 have HC1 : Hid (EntAt w1 (w.heap.size + 1) 144 Ent.zero) := lhid (ho.keep (new_two _ _ _) (by omega))
 have HP1 : Hid (EntAt w1 w.heap.size 144 Ent.zero) := lhid (ho.keep (by rw [Below.heap_alloc _ _ _ (by simp)]; exact heap_alloc_new _ _) (by omega))
 have HU1 := lhid (((((Only.refl R w).alloc _).alloc _).upto (Nat.le_refl _)).step ho (Nat.le_refl _))
 clear hr ho
 have d0 := HC1.out.cell (i := 0) rfl
 have e0 := HC1.out.fz 0
 go_wp2_with fail
 clear d0 e0
 with_reducible refine (num_any R (numS s 1) 8 _ (HR1.out.other (by dsimp only; omega) _)).mono ?_
 rintro e w2 ⟨rfl, hr, ho⟩
 have HR2 := lhid hr
 have HC2 := lhid ((HC1.out.set 0 _ ⟨5, 0, [], 0, 0, 0⟩ rfl).keep ho (by omega))
 have HP2 := lhid ((HP1.out.other (by simp) _).keep ho (by omega))
 have HU2 := lhid ((HU1.out.setCell (.inr (by simp)) _).step ho (Nat.le_refl _))
 clear hr ho
 obtain ⟨a0, a1, a2, a3, a4, a5, a6, a7⟩ := HC2.out.cells
 obtain ⟨p0, p1, p2, p3, p4, p5, p6, p7⟩ := HP2.out.cells
 have fa := HC2.out.thaw
 have fp := HP2.out.thaw
 go_wp2_with fail
 cases hbad : (entS s).2
 ·have HB : Hid ((numS (numS s 1) 8).2 = false) := lhid (by rw [← HS.out]; exact hbad)
  have HXX : Hid (entX s = 0) := lhid (by rw [HX.out, hbad]; rfl)
  clear hbad
  with_reducible refine (cutOff_any R _ false _ (lhid (HR2.out.other (by dsimp only; omega) _)) HB).mono ?_
  rintro e w4 ⟨rfl, n, rfl⟩
  go_wp2_with fail
  refine bodyPost_ret (v := .tuple #[.agg (entV ⟨5, wrap64 (numN (numS s 1) 8), [], 0, 0, 0⟩).toArray, .int .i64 0]) (by simp [results, Tryz.results105, go_sem, entV, Ent.zero, tx_nil, p0, p1, p2, p3, p4, p5, p6, p7]) rfl ?_
  refine ⟨⟨⟨5, wrap64 (numN (numS s 1) 8), [], 0, 0, 0⟩, by rw [HXX.out]; rfl, fun h0 => ?_⟩, ?_, ?_⟩
  ·rw [HE.out]
  ·rw [HS.out]
   repeat (first | refine Rdr.other ?_ (by dsimp only; omega) _ | refine Rdr.drewN ?_ _)
   exact HR2.out
  ·refine Upto.only ?_ (Nat.le_refl _)
   repeat (first | refine Upto.setCell ?_ (.inr (by simp)) _ | refine Upto.drewN ?_ _)
   exact HU2.out
 ·have HB : Hid ((numS (numS s 1) 8).2 = true) := lhid (by rw [← HS.out]; exact hbad)
  have HXX : Hid (entX s = 11) := lhid (by rw [HX.out, hbad]; rfl)
  clear hbad
  with_reducible refine (cutOff_any R _ true _ (lhid (HR2.out.other (by dsimp only; omega) _)) HB).mono ?_
  rintro e w4 ⟨rfl, n, rfl⟩
  go_wp2_with fail
  refine bodyPost_ret (v := .tuple #[.agg (entV Ent.zero).toArray, .int .i64 11]) (by simp [results, Tryz.results105, go_sem, entV, Ent.zero, tx_nil, p0, p1, p2, p3, p4, p5, p6, p7]) rfl ?_
  refine ⟨⟨Ent.zero, by rw [HXX.out]; rfl, fun h0 => ?_⟩, ?_, ?_⟩
  ·rw [HXX.out] at h0; cases h0
  ·rw [HS.out]
   repeat (first | refine Rdr.other ?_ (by dsimp only; omega) _ | refine Rdr.drewN ?_ _)
   exact HR2.out
  ·refine Upto.only ?_ (Nat.le_refl _)
   repeat (first | refine Upto.setCell ?_ (.inr (by simp)) _ | refine Upto.drewN ?_ _)
   exact HU2.out
set_option maxHeartbeats 4000000 in
set_option maxRecDepth 100000 in
theorem readEntry_7 (R : Nat) (s : St) (w : World) (h : Rdr w R s) (hk : numN s 1 = 7) :
  Calls Tryz.prog 105 #[.pointer (some ⟨R, 0, none⟩)] w (EntOut R s w) := by
 have hlt := h.lt
 have HK := lhid hk
 have HR := lhid h
 have HS : Hid (entS s = numS (numS s 1) 2) := lhid (by unfold entS; rw [hk]; rfl)
 have HE : Hid (entE s = ⟨7, 0, [], numN (numS s 1) 2, 0, 0⟩) := lhid (by unfold entE; rw [hk]; rfl)
 have HX : Hid (entX s = if (entS s).2 then 11 else 0) := lhid (by unfold entX entS; rw [hk]; rfl)
 clear h hk
 go_enter Tryz.func105, Tryz.ntmps105
 go_wp2_with fail
 with_reducible refine (num_any R s 1 _ ((HR.out.alloc _).alloc _)).mono ?_
 rintro e w1 ⟨rfl, hr, ho⟩
 rw [HK.out]
 have HR1 := lhid hr
 have HC1 : Hid (EntAt w1 (w.heap.size + 1) 144 Ent.zero) := lhid (ho.keep (new_two _ _ _) (by omega))
 have HP1 : Hid (EntAt w1 w.heap.size 144 Ent.zero) := lhid (ho.keep (by rw [Below.heap_alloc _ _ _ (by simp)]; exact heap_alloc_new _ _) (by omega))
 have HU1 := lhid (((((Only.refl R w).alloc _).alloc _).upto (Nat.le_refl _)).step ho (Nat.le_refl _))
 clear hr ho
 have d0 := HC1.out.cell (i := 0) rfl
 have e0 := HC1.out.fz 0
 go_wp2_with fail
 clear d0 e0
 with_reducible refine (readNames_1 (w.heap.size + 1) R _ ⟨7, 0, [], 0, 0, 0⟩ (numS s 1) _ (HR1.out.other (by dsimp only; omega) _) (HC1.out.set 0 _ ⟨7, 0, [], 0, 0, 0⟩ rfl) (Nat.le_of_lt (HC1.out.set 0 _ ⟨7, 0, [], 0, 0, 0⟩ rfl).lt) (Nat.le_refl _) (by omega)).mono ?_
 rintro e w2 ⟨rfl, hr, hc, hu⟩
 have HR2 := lhid hr
 have HC2 := lhid hc
 have HP2 : Hid (EntAt w2 w.heap.size 144 Ent.zero) := lhid ((hu.block _ (by omega) (by omega)).trans (HP1.out.other (by simp) _))
 have HU2 := lhid ((HU1.out.setCell (.inr (by simp)) _).trans (hu.mono (by omega)))
 clear hr hc hu
 obtain ⟨a0, a1, a2, a3, a4, a5, a6, a7⟩ := HC2.out.cells
 obtain ⟨p0, p1, p2, p3, p4, p5, p6, p7⟩ := HP2.out.cells
 have fa := HC2.out.thaw
 have fp := HP2.out.thaw
 go_wp2_with fail
 cases hbad : (entS s).2
 ·have HB : Hid ((numS (numS s 1) 2).2 = false) := lhid (by rw [← HS.out]; exact hbad)
  have HXX : Hid (entX s = 0) := lhid (by rw [HX.out, hbad]; rfl)
  clear hbad
  with_reducible refine (cutOff_any R _ false _ (lhid HR2.out) HB).mono ?_
  rintro e w4 ⟨rfl, n, rfl⟩
  go_wp2_with fail
  refine bodyPost_ret (v := .tuple #[.agg (entV ⟨7, 0, [], numN (numS s 1) 2, 0, 0⟩).toArray, .int .i64 0]) (by simp [results, Tryz.results105, go_sem, entV, Ent.zero, tx_nil, p0, p1, p2, p3, p4, p5, p6, p7]) rfl ?_
  refine ⟨⟨⟨7, 0, [], numN (numS s 1) 2, 0, 0⟩, by rw [HXX.out]; rfl, fun h0 => ?_⟩, ?_, ?_⟩
  ·rw [HE.out]
  ·rw [HS.out]
   repeat (first | refine Rdr.other ?_ (by dsimp only; omega) _ | refine Rdr.drewN ?_ _)
   exact HR2.out
  ·refine Upto.only ?_ (Nat.le_refl _)
   repeat (first | refine Upto.setCell ?_ (.inr (by simp)) _ | refine Upto.drewN ?_ _)
   exact HU2.out
 ·have HB : Hid ((numS (numS s 1) 2).2 = true) := lhid (by rw [← HS.out]; exact hbad)
  have HXX : Hid (entX s = 11) := lhid (by rw [HX.out, hbad]; rfl)
  clear hbad
  with_reducible refine (cutOff_any R _ true _ (lhid HR2.out) HB).mono ?_
  rintro e w4 ⟨rfl, n, rfl⟩
  go_wp2_with fail
  refine bodyPost_ret (v := .tuple #[.agg (entV Ent.zero).toArray, .int .i64 11]) (by simp [results, Tryz.results105, go_sem, entV, Ent.zero, tx_nil, p0, p1, p2, p3, p4, p5, p6, p7]) rfl ?_
  refine ⟨⟨Ent.zero, by rw [HXX.out]; rfl, fun h0 => ?_⟩, ?_, ?_⟩
  ·rw [HXX.out] at h0; cases h0
  ·rw [HS.out]
   repeat (first | refine Rdr.other ?_ (by dsimp only; omega) _ | refine Rdr.drewN ?_ _)
   exact HR2.out
  ·refine Upto.only ?_ (Nat.le_refl _)
   repeat (first | refine Upto.setCell ?_ (.inr (by simp)) _ | refine Upto.drewN ?_ _)
   exact HU2.out
set_option maxHeartbeats 4000000 in
set_option maxRecDepth 100000 in
theorem readEntry_8 (R : Nat) (s : St) (w : World) (h : Rdr w R s) (hk : numN s 1 = 8) :
  Calls Tryz.prog 105 #[.pointer (some ⟨R, 0, none⟩)] w (EntOut R s w) := by
 have hlt := h.lt
 have HK := lhid hk
 have HR := lhid h
 have HS : Hid (entS s = numS (numS s 1) 2) := lhid (by unfold entS; rw [hk]; rfl)
 have HE : Hid (entE s = ⟨8, 0, [], numN (numS s 1) 2, 0, 0⟩) := lhid (by unfold entE; rw [hk]; rfl)
 have HX : Hid (entX s = if (entS s).2 then 11 else 0) := lhid (by unfold entX entS; rw [hk]; rfl)
 clear h hk
 go_enter Tryz.func105, Tryz.ntmps105
 go_wp2_with fail
 with_reducible refine (num_any R s 1 _ ((HR.out.alloc _).alloc _)).mono ?_
 rintro e w1 ⟨rfl, hr, ho⟩
 rw [HK.out]
 have HR1 := lhid hr
 have HC1 : Hid (EntAt w1 (w.heap.size + 1) 144 Ent.zero) := lhid (ho.keep (new_two _ _ _) (by omega))
 have HP1 : Hid (EntAt w1 w.heap.size 144 Ent.zero) := lhid (ho.keep (by rw [Below.heap_alloc _ _ _ (by simp)]; exact heap_alloc_new _ _) (by omega))
 have HU1 := lhid (((((Only.refl R w).alloc _).alloc _).upto (Nat.le_refl _)).step ho (Nat.le_refl _))
 clear hr ho
 have d0 := HC1.out.cell (i := 0) rfl
 have e0 := HC1.out.fz 0
 go_wp2_with fail
 clear d0 e0
 with_reducible refine (readNames_1 (w.heap.size + 1) R _ ⟨8, 0, [], 0, 0, 0⟩ (numS s 1) _ (HR1.out.other (by dsimp only; omega) _) (HC1.out.set 0 _ ⟨8, 0, [], 0, 0, 0⟩ rfl) (Nat.le_of_lt (HC1.out.set 0 _ ⟨8, 0, [], 0, 0, 0⟩ rfl).lt) (Nat.le_refl _) (by omega)).mono ?_
 rintro e w2 ⟨rfl, hr, hc, hu⟩
 have HR2 := lhid hr
 have HC2 := lhid hc
 have HP2 : Hid (EntAt w2 w.heap.size 144 Ent.zero) := lhid ((hu.block _ (by omega) (by omega)).trans (HP1.out.other (by simp) _))
 have HU2 := lhid ((HU1.out.setCell (.inr (by simp)) _).trans (hu.mono (by omega)))
 clear hr hc hu
 obtain ⟨a0, a1, a2, a3, a4, a5, a6, a7⟩ := HC2.out.cells
 obtain ⟨p0, p1, p2, p3, p4, p5, p6, p7⟩ := HP2.out.cells
 have fa := HC2.out.thaw
 have fp := HP2.out.thaw
 go_wp2_with fail
 cases hbad : (entS s).2
 ·have HB : Hid ((numS (numS s 1) 2).2 = false) := lhid (by rw [← HS.out]; exact hbad)
  have HXX : Hid (entX s = 0) := lhid (by rw [HX.out, hbad]; rfl)
  clear hbad
  with_reducible refine (cutOff_any R _ false _ (lhid HR2.out) HB).mono ?_
  rintro e w4 ⟨rfl, n, rfl⟩
  go_wp2_with fail
  refine bodyPost_ret (v := .tuple #[.agg (entV ⟨8, 0, [], numN (numS s 1) 2, 0, 0⟩).toArray, .int .i64 0]) (by simp [results, Tryz.results105, go_sem, entV, Ent.zero, tx_nil, p0, p1, p2, p3, p4, p5, p6, p7]) rfl ?_
  refine ⟨⟨⟨8, 0, [], numN (numS s 1) 2, 0, 0⟩, by rw [HXX.out]; rfl, fun h0 => ?_⟩, ?_, ?_⟩
  ·rw [HE.out]
  ·rw [HS.out]
   repeat (first | refine Rdr.other ?_ (by dsimp only; omega) _ | refine Rdr.drewN ?_ _)
   exact HR2.out
  ·refine Upto.only ?_ (Nat.le_refl _)
   repeat (first | refine Upto.setCell ?_ (.inr (by simp)) _ | refine Upto.drewN ?_ _)
   exact HU2.out
 ·have HB : Hid ((numS (numS s 1) 2).2 = true) := lhid (by rw [← HS.out]; exact hbad)
  have HXX : Hid (entX s = 11) := lhid (by rw [HX.out, hbad]; rfl)
  clear hbad
  with_reducible refine (cutOff_any R _ true _ (lhid HR2.out) HB).mono ?_
  rintro e w4 ⟨rfl, n, rfl⟩
  go_wp2_with fail
  refine bodyPost_ret (v := .tuple #[.agg (entV Ent.zero).toArray, .int .i64 11]) (by simp [results, Tryz.results105, go_sem, entV, Ent.zero, tx_nil, p0, p1, p2, p3, p4, p5, p6, p7]) rfl ?_
  refine ⟨⟨Ent.zero, by rw [HXX.out]; rfl, fun h0 => ?_⟩, ?_, ?_⟩
  ·rw [HXX.out] at h0; cases h0
  ·rw [HS.out]
   repeat (first | refine Rdr.other ?_ (by dsimp only; omega) _ | refine Rdr.drewN ?_ _)
   exact HR2.out
  ·refine Upto.only ?_ (Nat.le_refl _)
   repeat (first | refine Upto.setCell ?_ (.inr (by simp)) _ | refine Upto.drewN ?_ _)
   exact HU2.out
set_option maxHeartbeats 4000000 in
set_option maxRecDepth 100000 in
theorem readEntry_9 (R : Nat) (s : St) (w : World) (h : Rdr w R s) (hk : numN s 1 = 9) :
  Calls Tryz.prog 105 #[.pointer (some ⟨R, 0, none⟩)] w (EntOut R s w) := by
 have hlt := h.lt
 have HK := lhid hk
 have HR := lhid h
 have HS : Hid (entS s = numS (numS (numS (numS s 1) 2) 2) 2) := lhid (by unfold entS; rw [hk]; rfl)
 have HE : Hid (entE s = ⟨9, 0, [], numN (numS s 1) 2, numN (numS (numS s 1) 2) 2, numN (numS (numS (numS s 1) 2) 2) 2⟩) := lhid (by unfold entE; rw [hk]; rfl)
 have HX : Hid (entX s = if (entS s).2 then 11 else 0) := lhid (by unfold entX entS; rw [hk]; rfl)
 clear h hk
 go_enter Tryz.func105, Tryz.ntmps105
 go_wp2_with fail
 with_reducible refine (num_any R s 1 _ ((HR.out.alloc _).alloc _)).mono ?_
 rintro e w1 ⟨rfl, hr, ho⟩
 rw [HK.out]
 have HR1 := lhid hr
 have HC1 : Hid (EntAt w1 (w.heap.size + 1) 144 Ent.zero) := lhid (ho.keep (new_two _ _ _) (by omega))
 have HP1 : Hid (EntAt w1 w.heap.size 144 Ent.zero) := lhid (ho.keep (by rw [Below.heap_alloc _ _ _ (by simp)]; exact heap_alloc_new _ _) (by omega))
 have HU1 := lhid (((((Only.refl R w).alloc _).alloc _).upto (Nat.le_refl _)).step ho (Nat.le_refl _))
 clear hr ho
 have d0 := HC1.out.cell (i := 0) rfl
 have e0 := HC1.out.fz 0
 go_wp2_with fail
 clear d0 e0
 with_reducible refine (readNames_3 (w.heap.size + 1) R _ ⟨9, 0, [], 0, 0, 0⟩ (numS s 1) _ (HR1.out.other (by dsimp only; omega) _) (HC1.out.set 0 _ ⟨9, 0, [], 0, 0, 0⟩ rfl) (Nat.le_of_lt (HC1.out.set 0 _ ⟨9, 0, [], 0, 0, 0⟩ rfl).lt) (Nat.le_refl _) (by omega)).mono ?_
 rintro e w2 ⟨rfl, hr, hc, hu⟩
 have HR2 := lhid hr
 have HC2 := lhid hc
 have HP2 : Hid (EntAt w2 w.heap.size 144 Ent.zero) := lhid ((hu.block _ (by omega) (by omega)).trans (HP1.out.other (by simp) _))
 have HU2 := lhid ((HU1.out.setCell (.inr (by simp)) _).trans (hu.mono (by omega)))
 clear hr hc hu
 obtain ⟨a0, a1, a2, a3, a4, a5, a6, a7⟩ := HC2.out.cells
 obtain ⟨p0, p1, p2, p3, p4, p5, p6, p7⟩ := HP2.out.cells
 have fa := HC2.out.thaw
 have fp := HP2.out.thaw
 go_wp2_with fail
 cases hbad : (entS s).2
 ·have HB : Hid ((numS (numS (numS (numS s 1) 2) 2) 2).2 = false) := lhid (by rw [← HS.out]; exact hbad)
  have HXX : Hid (entX s = 0) := lhid (by rw [HX.out, hbad]; rfl)
  clear hbad
  with_reducible refine (cutOff_any R _ false _ (lhid HR2.out) HB).mono ?_
  rintro e w4 ⟨rfl, n, rfl⟩
  go_wp2_with fail
  refine bodyPost_ret (v := .tuple #[.agg (entV ⟨9, 0, [], numN (numS s 1) 2, numN (numS (numS s 1) 2) 2, numN (numS (numS (numS s 1) 2) 2) 2⟩).toArray, .int .i64 0]) (by simp [results, Tryz.results105, go_sem, entV, Ent.zero, tx_nil, p0, p1, p2, p3, p4, p5, p6, p7]) rfl ?_
  refine ⟨⟨⟨9, 0, [], numN (numS s 1) 2, numN (numS (numS s 1) 2) 2, numN (numS (numS (numS s 1) 2) 2) 2⟩, by rw [HXX.out]; rfl, fun h0 => ?_⟩, ?_, ?_⟩
  ·rw [HE.out]
  ·rw [HS.out]
   repeat (first | refine Rdr.other ?_ (by dsimp only; omega) _ | refine Rdr.drewN ?_ _)
   exact HR2.out
  ·refine Upto.only ?_ (Nat.le_refl _)
   repeat (first | refine Upto.setCell ?_ (.inr (by simp)) _ | refine Upto.drewN ?_ _)
   exact HU2.out
 ·have HB : Hid ((numS (numS (numS (numS s 1) 2) 2) 2).2 = true) := lhid (by rw [← HS.out]; exact hbad)
  have HXX : Hid (entX s = 11) := lhid (by rw [HX.out, hbad]; rfl)
  clear hbad
  with_reducible refine (cutOff_any R _ true _ (lhid HR2.out) HB).mono ?_
  rintro e w4 ⟨rfl, n, rfl⟩
  go_wp2_with fail
  refine bodyPost_ret (v := .tuple #[.agg (entV Ent.zero).toArray, .int .i64 11]) (by simp [results, Tryz.results105, go_sem, entV, Ent.zero, tx_nil, p0, p1, p2, p3, p4, p5, p6, p7]) rfl ?_
  refine ⟨⟨Ent.zero, by rw [HXX.out]; rfl, fun h0 => ?_⟩, ?_, ?_⟩
  ·rw [HXX.out] at h0; cases h0
  ·rw [HS.out]
   repeat (first | refine Rdr.other ?_ (by dsimp only; omega) _ | refine Rdr.drewN ?_ _)
   exact HR2.out
  ·refine Upto.only ?_ (Nat.le_refl _)
   repeat (first | refine Upto.setCell ?_ (.inr (by simp)) _ | refine Upto.drewN ?_ _)
   exact HU2.out
set_option maxHeartbeats 4000000 in
set_option maxRecDepth 100000 in
theorem readEntry_10 (R : Nat) (s : St) (w : World) (h : Rdr w R s) (hk : numN s 1 = 10) :
  Calls Tryz.prog 105 #[.pointer (some ⟨R, 0, none⟩)] w (EntOut R s w) := by
 have hlt := h.lt
 have HK := lhid hk
 have HR := lhid h
 have HS : Hid (entS s = numS (numS (numS (numS s 1) 2) 2) 2) := lhid (by unfold entS; rw [hk]; rfl)
 have HE : Hid (entE s = ⟨10, 0, [], numN (numS s 1) 2, numN (numS (numS s 1) 2) 2, numN (numS (numS (numS s 1) 2) 2) 2⟩) := lhid (by unfold entE; rw [hk]; rfl)
 have HX : Hid (entX s = if (entS s).2 then 11 else 0) := lhid (by unfold entX entS; rw [hk]; rfl)
 clear h hk
 go_enter Tryz.func105, Tryz.ntmps105
 go_wp2_with fail
 with_reducible refine (num_any R s 1 _ ((HR.out.alloc _).alloc _)).mono ?_
 rintro e w1 ⟨rfl, hr, ho⟩
 rw [HK.out]
 have HR1 := lhid hr
 have HC1 : Hid (EntAt w1 (w.heap.size + 1) 144 Ent.zero) := lhid (ho.keep (new_two _ _ _) (by omega))
 have HP1 : Hid (EntAt w1 w.heap.size 144 Ent.zero) := lhid (ho.keep (by rw [Below.heap_alloc _ _ _ (by simp)]; exact heap_alloc_new _ _) (by omega))
 have HU1 := lhid (((((Only.refl R w).alloc _).alloc _).upto (Nat.le_refl _)).step ho (Nat.le_refl _))
 clear hr ho
 have d0 := HC1.out.cell (i := 0) rfl
 have e0 := HC1.out.fz 0
 go_wp2_with fail
 clear d0 e0
 with_reducible refine (readNames_3 (w.heap.size + 1) R _ ⟨10, 0, [], 0, 0, 0⟩ (numS s 1) _ (HR1.out.other (by dsimp only; omega) _) (HC1.out.set 0 _ ⟨10, 0, [], 0, 0, 0⟩ rfl) (Nat.le_of_lt (HC1.out.set 0 _ ⟨10, 0, [], 0, 0, 0⟩ rfl).lt) (Nat.le_refl _) (by omega)).mono ?_
 rintro e w2 ⟨rfl, hr, hc, hu⟩
 have HR2 := lhid hr
 have HC2 := lhid hc
 have HP2 : Hid (EntAt w2 w.heap.size 144 Ent.zero) := lhid ((hu.block _ (by omega) (by omega)).trans (HP1.out.other (by simp) _))
 have HU2 := lhid ((HU1.out.setCell (.inr (by simp)) _).trans (hu.mono (by omega)))
 clear hr hc hu
 obtain ⟨a0, a1, a2, a3, a4, a5, a6, a7⟩ := HC2.out.cells
 obtain ⟨p0, p1, p2, p3, p4, p5, p6, p7⟩ := HP2.out.cells
 have fa := HC2.out.thaw
 have fp := HP2.out.thaw
 go_wp2_with fail
 cases hbad : (entS s).2
 ·have HB : Hid ((numS (numS (numS (numS s 1) 2) 2) 2).2 = false) := lhid (by rw [← HS.out]; exact hbad)
  have HXX : Hid (entX s = 0) := lhid (by rw [HX.out, hbad]; rfl)
  clear hbad
  with_reducible refine (cutOff_any R _ false _ (lhid HR2.out) HB).mono ?_
  rintro e w4 ⟨rfl, n, rfl⟩
  go_wp2_with fail
  refine bodyPost_ret (v := .tuple #[.agg (entV ⟨10, 0, [], numN (numS s 1) 2, numN (numS (numS s 1) 2) 2, numN (numS (numS (numS s 1) 2) 2) 2⟩).toArray, .int .i64 0]) (by simp [results, Tryz.results105, go_sem, entV, Ent.zero, tx_nil, p0, p1, p2, p3, p4, p5, p6, p7]) rfl ?_
  refine ⟨⟨⟨10, 0, [], numN (numS s 1) 2, numN (numS (numS s 1) 2) 2, numN (numS (numS (numS s 1) 2) 2) 2⟩, by rw [HXX.out]; rfl, fun h0 => ?_⟩, ?_, ?_⟩
  ·rw [HE.out]
  ·rw [HS.out]
   repeat (first | refine Rdr.other ?_ (by dsimp only; omega) _ | refine Rdr.drewN ?_ _)
   exact HR2.out
  ·refine Upto.only ?_ (Nat.le_refl _)
   repeat (first | refine Upto.setCell ?_ (.inr (by simp)) _ | refine Upto.drewN ?_ _)
   exact HU2.out
 ·have HB : Hid ((numS (numS (numS (numS s 1) 2) 2) 2).2 = true) := lhid (by rw [← HS.out]; exact hbad)
  have HXX : Hid (entX s = 11) := lhid (by rw [HX.out, hbad]; rfl)
  clear hbad
  with_reducible refine (cutOff_any R _ true _ (lhid HR2.out) HB).mono ?_
  rintro e w4 ⟨rfl, n, rfl⟩
  go_wp2_with fail
  refine bodyPost_ret (v := .tuple #[.agg (entV Ent.zero).toArray, .int .i64 11]) (by simp [results, Tryz.results105, go_sem, entV, Ent.zero, tx_nil, p0, p1, p2, p3, p4, p5, p6, p7]) rfl ?_
  refine ⟨⟨Ent.zero, by rw [HXX.out]; rfl, fun h0 => ?_⟩, ?_, ?_⟩
  ·rw [HXX.out] at h0; cases h0
  ·rw [HS.out]
   repeat (first | refine Rdr.other ?_ (by dsimp only; omega) _ | refine Rdr.drewN ?_ _)
   exact HR2.out
  ·refine Upto.only ?_ (Nat.le_refl _)
   repeat (first | refine Upto.setCell ?_ (.inr (by simp)) _ | refine Upto.drewN ?_ _)
   exact HU2.out
set_option maxHeartbeats 4000000 in
set_option maxRecDepth 100000 in
theorem readEntry_11 (R : Nat) (s : St) (w : World) (h : Rdr w R s) (hk : numN s 1 = 11) :
  Calls Tryz.prog 105 #[.pointer (some ⟨R, 0, none⟩)] w (EntOut R s w) := by
 have hlt := h.lt
 have HK := lhid hk
 have HR := lhid h
 have HS : Hid (entS s = numS (numS (numS (numS s 1) 2) 2) 2) := lhid (by unfold entS; rw [hk]; rfl)
 have HE : Hid (entE s = ⟨11, 0, [], numN (numS s 1) 2, numN (numS (numS s 1) 2) 2, numN (numS (numS (numS s 1) 2) 2) 2⟩) := lhid (by unfold entE; rw [hk]; rfl)
 have HX : Hid (entX s = if (entS s).2 then 11 else 0) := lhid (by unfold entX entS; rw [hk]; rfl)
 clear h hk
 go_enter Tryz.func105, Tryz.ntmps105
 go_wp2_with fail
 with_reducible refine (num_any R s 1 _ ((HR.out.alloc _).alloc _)).mono ?_
 rintro e w1 ⟨rfl, hr, ho⟩
 rw [HK.out]
 have HR1 := lhid hr
 have HC1 : Hid (EntAt w1 (w.heap.size + 1) 144 Ent.zero) := lhid (ho.keep (new_two _ _ _) (by omega))
 have HP1 : Hid (EntAt w1 w.heap.size 144 Ent.zero) := lhid (ho.keep (by rw [Below.heap_alloc _ _ _ (by simp)]; exact heap_alloc_new _ _) (by omega))
 have HU1 := lhid (((((Only.refl R w).alloc _).alloc _).upto (Nat.le_refl _)).step ho (Nat.le_refl _))
 clear hr ho
 have d0 := HC1.out.cell (i := 0) rfl
 have e0 := HC1.out.fz 0
 go_wp2_with fail
 clear d0 e0
 with_reducible refine (readNames_3 (w.heap.size + 1) R _ ⟨11, 0, [], 0, 0, 0⟩ (numS s 1) _ (HR1.out.other (by dsimp only; omega) _) (HC1.out.set 0 _ ⟨11, 0, [], 0, 0, 0⟩ rfl) (Nat.le_of_lt (HC1.out.set 0 _ ⟨11, 0, [], 0, 0, 0⟩ rfl).lt) (Nat.le_refl _) (by omega)).mono ?_
 rintro e w2 ⟨rfl, hr, hc, hu⟩
 have HR2 := lhid hr
 have HC2 := lhid hc
 have HP2 : Hid (EntAt w2 w.heap.size 144 Ent.zero) := lhid ((hu.block _ (by omega) (by omega)).trans (HP1.out.other (by simp) _))
 have HU2 := lhid ((HU1.out.setCell (.inr (by simp)) _).trans (hu.mono (by omega)))
 clear hr hc hu
 obtain ⟨a0, a1, a2, a3, a4, a5, a6, a7⟩ := HC2.out.cells
 obtain ⟨p0, p1, p2, p3, p4, p5, p6, p7⟩ := HP2.out.cells
 have fa := HC2.out.thaw
 have fp := HP2.out.thaw
 go_wp2_with fail
 cases hbad : (entS s).2
 ·have HB : Hid ((numS (numS (numS (numS s 1) 2) 2) 2).2 = false) := lhid (by rw [← HS.out]; exact hbad)
  have HXX : Hid (entX s = 0) := lhid (by rw [HX.out, hbad]; rfl)
  clear hbad
  with_reducible refine (cutOff_any R _ false _ (lhid HR2.out) HB).mono ?_
  rintro e w4 ⟨rfl, n, rfl⟩
  go_wp2_with fail
  refine bodyPost_ret (v := .tuple #[.agg (entV ⟨11, 0, [], numN (numS s 1) 2, numN (numS (numS s 1) 2) 2, numN (numS (numS (numS s 1) 2) 2) 2⟩).toArray, .int .i64 0]) (by simp [results, Tryz.results105, go_sem, entV, Ent.zero, tx_nil, p0, p1, p2, p3, p4, p5, p6, p7]) rfl ?_
  refine ⟨⟨⟨11, 0, [], numN (numS s 1) 2, numN (numS (numS s 1) 2) 2, numN (numS (numS (numS s 1) 2) 2) 2⟩, by rw [HXX.out]; rfl, fun h0 => ?_⟩, ?_, ?_⟩
  ·rw [HE.out]
  ·rw [HS.out]
   repeat (first | refine Rdr.other ?_ (by dsimp only; omega) _ | refine Rdr.drewN ?_ _)
   exact HR2.out
  ·refine Upto.only ?_ (Nat.le_refl _)
   repeat (first | refine Upto.setCell ?_ (.inr (by simp)) _ | refine Upto.drewN ?_ _)
   exact HU2.out
 ·have HB : Hid ((numS (numS (numS (numS s 1) 2) 2) 2).2 = true) := lhid (by rw [← HS.out]; exact hbad)
  have HXX : Hid (entX s = 11) := lhid (by rw [HX.out, hbad]; rfl)
  clear hbad
  with_reducible refine (cutOff_any R _ true _ (lhid HR2.out) HB).mono ?_
  rintro e w4 ⟨rfl, n, rfl⟩
  go_wp2_with fail
  refine bodyPost_ret (v := .tuple #[.agg (entV Ent.zero).toArray, .int .i64 11]) (by simp [results, Tryz.results105, go_sem, entV, Ent.zero, tx_nil, p0, p1, p2, p3, p4, p5, p6, p7]) rfl ?_
  refine ⟨⟨Ent.zero, by rw [HXX.out]; rfl, fun h0 => ?_⟩, ?_, ?_⟩
  ·rw [HXX.out] at h0; cases h0
  ·rw [HS.out]
   repeat (first | refine Rdr.other ?_ (by dsimp only; omega) _ | refine Rdr.drewN ?_ _)
   exact HR2.out
  ·refine Upto.only ?_ (Nat.le_refl _)
   repeat (first | refine Upto.setCell ?_ (.inr (by simp)) _ | refine Upto.drewN ?_ _)
   exact HU2.out
set_option maxHeartbeats 4000000 in
set_option maxRecDepth 100000 in
theorem readEntry_other (R : Nat) (s : St) (w : World) (h : Rdr w R s) (k : Nat) (hkn : knownK k = false) (hk : numN s 1 = k) :
  Calls Tryz.prog 105 #[.pointer (some ⟨R, 0, none⟩)] w (EntOut R s w) := by
 have hlt := h.lt
 have HK := lhid hk
 have HR := lhid h
 have HS : Hid (entS s = numS s 1) := lhid (by unfold entS; rw [hk]; exact bodyS_other _ _ hkn)
 have HE : Hid (entE s = ⟨k, 0, [], 0, 0, 0⟩) := lhid (by unfold entE; rw [hk]; exact bodyE_other _ _ hkn)
 have HX : Hid (entX s = if (entS s).2 then 11 else 12) := lhid (by unfold entX entS; rw [hk]; rw [hkn]; rfl)
 obtain ⟨t1, t3, t5, t7, t8, t9, t10, t11⟩ := other_tests k hkn
 have bk := num1_lt s
 rw [hk] at bk
 have hbk : wrap64 (k : Int) = k := IntWalk.wrap64_in _ (by omega)
 clear h hk
 go_enter Tryz.func105, Tryz.ntmps105
 go_wp2_with fail
 with_reducible refine (num_any R s 1 _ ((HR.out.alloc _).alloc _)).mono ?_
 rintro e w1 ⟨rfl, hr, ho⟩
 rw [HK.out]
 have HR1 := lhid hr
 have HC1 : Hid (EntAt w1 (w.heap.size + 1) 144 Ent.zero) := lhid (ho.keep (new_two _ _ _) (by omega))
 have HP1 : Hid (EntAt w1 w.heap.size 144 Ent.zero) := lhid (ho.keep (by rw [Below.heap_alloc _ _ _ (by simp)]; exact heap_alloc_new _ _) (by omega))
 have HU1 := lhid (((((Only.refl R w).alloc _).alloc _).upto (Nat.le_refl _)).step ho (Nat.le_refl _))
 clear hr ho
 have d0 := HC1.out.cell (i := 0) rfl
 have e0 := HC1.out.fz 0
 obtain ⟨a0, a1, a2, a3, a4, a5, a6, a7⟩ := HC1.out.cells
 obtain ⟨p0, p1, p2, p3, p4, p5, p6, p7⟩ := HP1.out.cells
 have fa := HC1.out.thaw
 have fp := HP1.out.thaw
 clear d0 e0
 go_wp2_with fail
 cases hbad : (entS s).2
 ·have HB : Hid ((numS s 1).2 = false) := lhid (by rw [← HS.out]; exact hbad)
  have HXX : Hid (entX s = 12) := lhid (by rw [HX.out, hbad]; rfl)
  clear hbad
  with_reducible refine (cutOff_any R _ false _ (lhid (HR1.out.other (by dsimp only; omega) _)) HB).mono ?_
  rintro e w4 ⟨rfl, n, rfl⟩
  go_wp2_with fail
  refine bodyPost_ret (v := .tuple #[.agg (entV ⟨k, 0, [], 0, 0, 0⟩).toArray, .int .i64 12]) (by simp [results, Tryz.results105, go_sem, entV, Ent.zero, tx_nil, p0, p1, p2, p3, p4, p5, p6, p7]) rfl ?_
  refine ⟨⟨⟨k, 0, [], 0, 0, 0⟩, by rw [HXX.out]; rfl, fun h0 => ?_⟩, ?_, ?_⟩
  ·rw [HXX.out] at h0; cases h0
  ·rw [HS.out]
   repeat (first | refine Rdr.other ?_ (by dsimp only; omega) _ | refine Rdr.drewN ?_ _)
   exact HR1.out
  ·refine Upto.only ?_ (Nat.le_refl _)
   repeat (first | refine Upto.setCell ?_ (.inr (by simp)) _ | refine Upto.drewN ?_ _)
   exact HU1.out
 ·have HB : Hid ((numS s 1).2 = true) := lhid (by rw [← HS.out]; exact hbad)
  have HXX : Hid (entX s = 11) := lhid (by rw [HX.out, hbad]; rfl)
  clear hbad
  with_reducible refine (cutOff_any R _ true _ (lhid (HR1.out.other (by dsimp only; omega) _)) HB).mono ?_
  rintro e w4 ⟨rfl, n, rfl⟩
  go_wp2_with fail
  refine bodyPost_ret (v := .tuple #[.agg (entV Ent.zero).toArray, .int .i64 11]) (by simp [results, Tryz.results105, go_sem, entV, Ent.zero, tx_nil, p0, p1, p2, p3, p4, p5, p6, p7]) rfl ?_
  refine ⟨⟨Ent.zero, by rw [HXX.out]; rfl, fun h0 => ?_⟩, ?_, ?_⟩
  ·rw [HXX.out] at h0; cases h0
  ·rw [HS.out]
   repeat (first | refine Rdr.other ?_ (by dsimp only; omega) _ | refine Rdr.drewN ?_ _)
   exact HR1.out
  ·refine Upto.only ?_ (Nat.le_refl _)
   repeat (first | refine Upto.setCell ?_ (.inr (by simp)) _ | refine Upto.drewN ?_ _)
   exact HU1.out
theorem readEntry_any (R : Nat) (s : St) (w : World) (h : Rdr w R s) :
  Calls Tryz.prog 105 #[.pointer (some ⟨R, 0, none⟩)] w (EntOut R s w) := by
 cases hkn : knownK (numN s 1)
 ·exact readEntry_other R s w h _ hkn rfl
 ·unfold knownK at hkn
  simp only [Bool.or_eq_true, beq_iff_eq] at hkn
  rcases hkn with ((((((hk | hk) | hk) | hk) | hk) | hk) | hk) | hk
  ·exact readEntry_1 R s w h hk
  ·exact readEntry_3 R s w h hk
  ·exact readEntry_5 R s w h hk
  ·exact readEntry_7 R s w h hk
  ·exact readEntry_8 R s w h hk
  ·exact readEntry_9 R s w h hk
  ·exact readEntry_10 R s w h hk
  ·exact readEntry_11 R s w h hk
end Go.Proofs.YtgihfcimngogfaaGreat
