/- Texts of this claim, joined: PoolRefAny, PoolCall, PoolOpen. -/
import Derived.Test.YtgihfcimngogfaaGreatJPoolRefRead
import Derived.ChangeSlices
import Derived.OpenShut
import Derived.WideShapes
namespace Go.Proofs.YtgihfcimngogfaaGreat
open Go.RowKit Go
set_option linter.unusedVariables false
set_option maxHeartbeats 4000000 in
set_option maxRecDepth 100000 in
theorem refRead_end (X : Tl) (B M : Nat) (v : Value) (L : Bs) (s : St) (w : World) (h : DocS X B w M v L s) (hb : (numS s 2).2 = true) :
  Calls Tryz.prog 47 #[.pointer (some ⟨M, 0, none⟩)] w (RefOut X B M v L (11, []) (numS s 2) w) := by
 have HR := lhid h
 have HB := lhid hb
 clear h hb
 go_enter Tryz.func47, Tryz.ntmps47
 go_wp2_with fail
 with_reducible refine (refNum_any X B M v L s 2 _ HR.out).mono ?_
 rintro e w1 ⟨rfl, hd, ho⟩
 have HD1 := lhid hd
 have HO1 := lhid ho
 have d2 : w1.cell? ⟨M, 2, none⟩ = some (.bool true) := by rw [← HB.out]; exact hd.doc.c2
 clear hd ho
 go_wp2_with fail
 go_ret2
 exact refOut_err 11 (by decide) rfl rfl HD1.out HO1.out
set_option maxHeartbeats 4000000 in
set_option maxRecDepth 100000 in
theorem refRead_many (X : Tl) (B M : Nat) (v : Value) (L : Bs) (s : St) (w : World) (h : DocS X B w M v L s) (hb : (numS s 2).2 = false) (hn : numN s 2 = 0 ∨ 1000 < numN s 2) :
  Calls Tryz.prog 47 #[.pointer (some ⟨M, 0, none⟩)] w (RefOut X B M v L (12, []) (numS s 2) w) := by
 have HR := lhid h
 have HB := lhid hb
 have hl := num2_lt s
 obtain ⟨n, hnn⟩ : ∃ n, numN s 2 = n := ⟨_, rfl⟩
 rw [hnn] at hn hl
 have HN := lhid hnn
 clear h hb hnn
 have hwrap : wrap64 (n : Int) = n := IntWalk.wrap64_in _ (by omega)
 rcases hn with rfl | hn
 ·go_enter Tryz.func47, Tryz.ntmps47
  go_wp2_with fail
  with_reducible refine (refNum_any X B M v L s 2 _ HR.out).mono ?_
  rintro e w1 ⟨rfl, hd, ho⟩
  rw [HN.out]
  have HD1 := lhid hd
  have HO1 := lhid ho
  have d2 : w1.cell? ⟨M, 2, none⟩ = some (.bool false) := by rw [← HB.out]; exact hd.doc.c2
  clear hd ho
  go_wp2_with fail
  go_ret2
  exact refOut_err 12 (by decide) rfl rfl HD1.out HO1.out
 ·have c1 : ((n : Int) == 0) = false := by rw [beq_eq_false_iff_ne]; omega
  have c2 : (1000 : Int) < n := by omega
  go_enter Tryz.func47, Tryz.ntmps47
  go_wp2_with fail
  with_reducible refine (refNum_any X B M v L s 2 _ HR.out).mono ?_
  rintro e w1 ⟨rfl, hd, ho⟩
  rw [HN.out]
  have HD1 := lhid hd
  have HO1 := lhid ho
  have d2 : w1.cell? ⟨M, 2, none⟩ = some (.bool false) := by rw [← HB.out]; exact hd.doc.c2
  clear hd ho
  go_wp2_with fail
  go_ret2
  exact refOut_err 12 (by decide) rfl rfl HD1.out HO1.out
theorem pool_pair (s : St) : (poolX s, poolL s) = afterR (rdHead s) := by
 unfold poolX poolL afterR
 split <;> rfl
theorem refRead_any (X : Tl) (B M : Nat) (v : Value) (L : Bs) (s : St) (w : World) (h : DocS X B w M v L s) :
  Calls Tryz.prog 47 #[.pointer (some ⟨M, 0, none⟩)] w (RefOut X B M v L (poolX s, poolL s) (poolS s) w) := by
 rw [pool_pair]
 unfold poolS
 cases hb : (numS s 2).2
 ·by_cases hn : numN s 2 = 0 ∨ 1000 < numN s 2
  ·have hh : rdHead s = (12, [], numS s 2) := by unfold rdHead; rw [hb, if_neg (by simp), if_pos hn]
   rw [hh]
   exact refRead_many X B M v L s w h hb hn
  ·have hh : rdHead s = rdEnts (numN s 2 - 1) (numS s 2) [Ent.zero] := by unfold rdHead; rw [hb, if_neg (by simp), if_neg hn]
   have := refRead_main X B M v L s w h _ rfl (by omega) (by omega) hb _ rfl
   rw [← hh] at this
   exact this
 ·have hh : rdHead s = (11, [], numS s 2) := by unfold rdHead; rw [hb]; rfl
  rw [hh]
  exact refRead_end X B M v L s w h hb
end Go.Proofs.YtgihfcimngogfaaGreat
namespace Go.Proofs.YtgihfcimngogfaaGreat
open Go.RowKit Go
set_option linter.unusedVariables false
theorem resAll_len (l : List Ent) : ∀ (rest : List Ent) (acc : List Con), (resAll l rest acc).1 = 0 → (resAll l rest acc).2.length = acc.length + rest.length
 | [], acc, _ => by rw [resAll_nil]; simp
 | x :: rest, acc, h => by
  by_cases hx : (resOne l x).1 = 0
  ·rw [resAll_on l x rest acc hx] at h ⊢
   rw [resAll_len l rest _ h]
   simp
   omega
  ·rw [resAll_no l x rest acc hx] at h
   exact absurd h hx
theorem poolL_len (s : St) (h : poolX s = 0) : (poolL s).length ≤ 1000 := by
 unfold poolX at h
 unfold poolL
 by_cases hx : (rdHead s).1 = 0
 ·rw [if_neg (by omega)] at h ⊢
  rw [resAll_len _ _ _ h]
  obtain ⟨t, h1, h2, _⟩ := rdHead_ok s hx
  rw [h1]
  simpa using h2
 ·rw [if_pos hx] at h
  exact absurd h hx
theorem read_ok (R : Nat) (s : St) (l : List Con) (w : World) (h : Hid (Rdr w R s)) (hx : Hid (poolX s = 0)) (hl : Hid (poolL s = l)) :
  Calls Tryz.prog 57 #[.pointer (some ⟨R, 0, none⟩)] w fun e w' => (∃ g, e = .returned (.tuple #[.slice (some ⟨g, 0, none⟩) l.length l.length, .int .i64 0]) ∧ w.heap.size ≤ g ∧ RowsAt w' g 39 5 (l.map conV)) ∧ Rdr w' R (poolS s) ∧ Only R w w' := by
 refine (read_any R s w h.out).mono ?_
 rintro e w' ⟨he, h1, h2⟩
 rw [if_pos hx.out, hl.out] at he
 exact ⟨he, h1, h2⟩
theorem read_err (R : Nat) (s : St) (x : Nat) (w : World) (h : Hid (Rdr w R s)) (hx : Hid (poolX s = x)) (h0 : x ≠ 0) :
  Calls Tryz.prog 57 #[.pointer (some ⟨R, 0, none⟩)] w fun e w' => e = .returned (.tuple #[.slice none 0 0, .int .i64 x]) ∧ Rdr w' R (poolS s) ∧ Only R w w' := by
 refine (read_any R s w h.out).mono ?_
 rintro e w' ⟨he, h1, h2⟩
 rw [if_neg (by rw [hx.out]; exact h0), hx.out] at he
 exact ⟨he, h1, h2⟩
theorem refRead_ok (X : Tl) (B M : Nat) (v : Value) (L : Bs) (s : St) (l : List Con) (w : World) (h : Hid (DocS X B w M v L s)) (hx : Hid (poolX s = 0)) (hl : Hid (poolL s = l)) :
  Calls Tryz.prog 47 #[.pointer (some ⟨M, 0, none⟩)] w fun e w' => (∃ g, e = .returned (.tuple #[.slice (some ⟨g, 0, none⟩) l.length l.length, .int .i64 0]) ∧ w.heap.size ≤ g ∧ RowsAt w' g 39 5 (l.map conV)) ∧ DocS X B w' M v L (poolS s) ∧ Only M w w' := by
 refine (refRead_any X B M v L s w h.out).mono ?_
 rintro e w' ⟨he, h1, h2⟩
 rw [if_pos hx.out, hl.out] at he
 exact ⟨he, h1, h2⟩
theorem refRead_err (X : Tl) (B M : Nat) (v : Value) (L : Bs) (s : St) (x : Nat) (w : World) (h : Hid (DocS X B w M v L s)) (hx : Hid (poolX s = x)) (h0 : x ≠ 0) :
  Calls Tryz.prog 47 #[.pointer (some ⟨M, 0, none⟩)] w fun e w' => e = .returned (.tuple #[.slice none 0 0, .int .i64 x]) ∧ DocS X B w' M v L (poolS s) ∧ Only M w w' := by
 refine (refRead_any X B M v L s w h.out).mono ?_
 rintro e w' ⟨he, h1, h2⟩
 rw [if_neg (by rw [hx.out]; exact h0), hx.out] at he
 exact ⟨he, h1, h2⟩
theorem rdr_new (w : World) (l : Bs) : Rdr (w.alloc (.cells #[.string (tx l), .bool false] 105)) w.heap.size (l, false) := heap_alloc_new w _
theorem rdB_low {w : World} {v : Value} {L : Bs} (h : RdB w v L) : L = [] ∨ ∀ x, v.ownBlock = some x → x < w.heap.size := by
 rcases h with ⟨rfl, rfl⟩ | ⟨b, o, cap, rfl, _, _, hc⟩
 ·exact .inl rfl
 ·cases L with
  | nil => exact .inl rfl
  | cons c r =>
   right
   intro x hx
   simp [Value.ownBlock] at hx
   subst hx
   exact World.block_lt_of_cell? w _ (hc 0 c rfl)
theorem rdB_form {w : World} {v : Value} {L : Bs} (h : RdB w v L) : ∃ A cap, v = .slice A L.length cap ∧ L.length ≤ maxLen := by
 rcases h with ⟨rfl, rfl⟩ | ⟨b, o, cap, rfl, h1, h2, _⟩
 ·exact ⟨_, _, rfl, by unfold maxLen; simp⟩
 ·exact ⟨_, _, rfl, by omega⟩
end Go.Proofs.YtgihfcimngogfaaGreat
namespace Go.Proofs.YtgihfcimngogfaaGreat
open Go.RowKit Go Go.ChangeShapes Go.WideShapes
set_option linter.unusedVariables false
theorem okWide_spot {P : Program} {w : World} {r : Reach} {base : Nat} {t e : TypeId} {a : Option Addr} {len cap : Nat} (ht : P.underlying t = some (.slice e)) (h : Value.okWide P w r base t (.slice a len cap)) : ∀ x, a = some x → x.spot = none := by
 rintro x rfl
 simp only [Value.okWide, ht, Cell.okWide, Cell.ok] at h
 exact h.2.2.2.1
theorem getD_some (zs : List Int) (i : Nat) (h : i < zs.length) : zs.getD i 0 = zs[i] := by simp [List.getD, h]
theorem open_bytes {P : Program} {H : Type} {enc : TypeId × Value → H} {w : World} {base t e fuel : Nat} {a : Option Addr} {len cap : Nat} {d : DataW H} {ps : List MemPlace} (ht : P.underlying t = some (.slice e)) (he : P.underlying e = some (.int .u8)) (hc : P.cellsOf e = 1) (hsp : ∀ x, a = some x → x.spot = none)
  (hf : DataW.trod enc P w base (fun _ => true) true fuel t [.slice a len cap] = some (d, ps)) : ∃ L : Bs, RdB w (.slice a len cap) L := by
 rcases open_ints ht he hc hf with ⟨hcs, hx⟩ | ⟨a', len', cap', zs, hcs, _, hl, hm, hz, hx, hcell, hwz⟩
 ·simp at hcs
  obtain ⟨rfl, rfl, rfl⟩ := hcs
  exact ⟨[], .inl ⟨rfl, rfl⟩⟩
 ·simp at hcs
  obtain ⟨rfl, rfl, rfl⟩ := hcs
  simp only [if_true] at hz
  obtain ⟨b, o, sp⟩ := a'
  have hs := hsp _ rfl
  simp only at hs
  subst hs
  have hlen : ((zs.take len).map fun n => UInt8.ofNat n.toNat).length = len := by simp; omega
  refine ⟨(zs.take len).map fun n => UInt8.ofNat n.toNat, .inr ⟨b, o, cap, by rw [hlen], by omega, hm, fun i c hi => ?_⟩⟩
  have hil : i < len := by
   have := (List.getElem?_eq_some_iff.1 hi).1
   omega
  have hiz : i < zs.length := by omega
  rw [← add_plain, hcell i hiz, getD_some zs i hiz]
  rw [List.getElem?_map, List.getElem?_take_of_lt hil, List.getElem?_eq_getElem hiz] at hi
  simp only [Option.map_some, Option.some.injEq] at hi
  have hb := bounds_u8 (hwz zs[i] (List.getElem_mem hiz))
  rw [← hi]
  congr 2
  have h1 : (UInt8.ofNat (zs[i]).toNat).toNat = (zs[i]).toNat := by
   rw [UInt8.toNat_ofNat']
   exact Nat.mod_eq_of_lt (by omega)
  rw [h1]
  omega
end Go.Proofs.YtgihfcimngogfaaGreat
