/- Contracts of From, and of the document's reader: Take and Num. -/
import Derived.Test.YtgihfcimngogfaaGreatJPoolTake
import Derived.Laws.BytesArg
namespace Go.Proofs.YtgihfcimngogfaaGreat
open Go.RowKit Go
set_option linter.unusedVariables false
theorem nums_tx (l : Bs) : strOfNums (l.map fun c => (c.toNat : Int)) = tx l := by
 apply ByteArray.ext
 apply Array.toList_inj.1
 show (strOfNums _).data.toList = (tx l).data.toList
 rw [tx_list]
 rw [show (strOfNums (l.map fun c => (c.toNat : Int))).data.toList = (l.map fun c => (c.toNat : Int)).map fun n => UInt8.ofNat n.toNat from by unfold strOfNums; simp, List.map_map]
 conv => rhs; rw [← List.map_id l]
 apply List.map_congr_left
 intro c _
 simp
theorem conv_slice (w : World) (b o cap : Nat) (l : Bs) (hc : ∀ (i : Nat) (c : UInt8), l[i]? = some c → w.cell? ⟨b, o + i, none⟩ = some (.int .u8 (c.toNat : Int))) :
  (convert 28 9 (.slice (some ⟨b, o, none⟩) l.length cap)).run Tryz.prog w = .ok (.string (tx l)) w := by
 have h := run_convert_bytes_arg (P := Tryz.prog) w 28 5 Tryz.underlying28 Tryz.underlying5 b o l.length cap (l.map fun c => (c.toNat : Int)) (by simp) (fun i hi => by
  rw [hc i _ (List.getElem?_eq_getElem hi)]
  simp [List.getD, hi]) 9 Tryz.underlying9
 rw [h, nums_tx]
theorem conv_nil (w : World) (n cap : Nat) : (convert 28 9 (.slice none n cap)).run Tryz.prog w = .ok (.string (tx [])) w :=
 run_convert_bytes_nil (P := Tryz.prog) w 28 5 Tryz.underlying28 Tryz.underlying5 n cap 9 Tryz.underlying9
theorem conv_rdb (w : World) (v : Value) (l : Bs) (h : RdB w v l) : (convert 28 9 v).run Tryz.prog w = .ok (.string (tx l)) w := by
 rcases h with ⟨rfl, rfl⟩ | ⟨b, o, cap, rfl, _, _, h⟩
 ·exact conv_nil w 0 0
 ·exact conv_slice w b o cap l h
set_option maxHeartbeats 1000000 in
set_option maxRecDepth 100000 in
theorem from_any (v : Value) (l : Bs) (w : World) (h : RdB w v l) :
  Calls Tryz.prog 29 #[v] w fun e w' => e = .returned (.pointer (some ⟨w.heap.size, 0, none⟩)) ∧ w' = w.alloc (.cells #[.string (tx l), .bool false] 105) := by
 have hc := conv_rdb w v l h
 go_enter Tryz.func29, Tryz.ntmps29
 go_wp2_with fail
 go_ret
 exact ⟨rfl, rfl⟩
structure DocS (X : Tl) (B : Nat) (w : World) (M : Nat) (v : Value) (L : Bs) (s : St) : Prop where
 doc : Doc X w M v (L.length - s.1.length) s.2
 le : s.1.length ≤ L.length
 suf : s.1 = L.drop (L.length - s.1.length)
 rd : RdB w v L
 base : B ≤ M
 low : L = [] ∨ ∀ x, v.ownBlock = some x → x < B
 bw : B ≤ w.heap.size
theorem rdB_below {B : Nat} {w w' : World} {v : Value} {L : Bs} (h : RdB w v L) (hl : L = [] ∨ ∀ x, v.ownBlock = some x → x < B) (hb : Below B w w') : RdB w' v L := by
 rcases h with h | ⟨b, o, cap, rfl, h1, h2, h3⟩
 ·exact .inl h
 rcases hl with rfl | hl
 ·exact .inr ⟨b, o, cap, rfl, h1, h2, fun i c hc => by simp at hc⟩
 ·exact .inr ⟨b, o, cap, rfl, h1, h2, fun i c hc => (hb.cell (p := ⟨b, o + i, none⟩) (hl b rfl)).trans (h3 i c hc)⟩
theorem DocS.keep {X : Tl} {B M R : Nat} {w w' : World} {v : Value} {L : Bs} {s : St} (h : DocS X B w M v L s) (ho : Only R w w') (hr : M ≠ R) (hB : B ≤ R) : DocS X B w' M v L s :=
 ⟨h.doc.keep ho hr, h.le, h.suf, rdB_below h.rd h.low (ho.below hB h.bw), h.base, h.low, Nat.le_trans h.bw ho.size⟩
theorem DocS.drewN {X : Tl} {B M : Nat} {w : World} {v : Value} {L : Bs} {s : St} (h : DocS X B w M v L s) (n : Nat) : DocS X B (w.drewN n) M v L s :=
 ⟨h.doc, h.le, h.suf, rdB_below h.rd h.low ⟨rfl, rfl, rfl, Nat.le_refl _, fun _ _ => rfl⟩, h.base, h.low, h.bw⟩
set_option maxHeartbeats 2000000 in
set_option maxRecDepth 100000 in
theorem refTake_no (X : Tl) (B M : Nat) (v : Value) (L : Bs) (s : St) (n : Int) (w : World) (h : DocS X B w M v L s) (hn : n < 0 ∨ (s.1.length : Int) < n) :
  Calls Tryz.prog 46 #[.pointer (some ⟨M, 0, none⟩), .int .i64 n] w fun e w' => e = .returned (.string (tx [])) ∧ ∃ q, w' = ((w.drewN q).setCell ⟨M, 1, none⟩ (.int .i64 L.length)).setCell ⟨M, 2, none⟩ (.bool true) := by
 have c0 := h.doc.c0
 have c1 := h.doc.c1
 have c2 := h.doc.c2
 have f1 := h.doc.fz 1
 have f2 := h.doc.fz 2
 have hle := h.le
 obtain ⟨A, cap, rfl, hcap⟩ : ∃ A cap, v = .slice A L.length cap ∧ L.length ≤ maxLen := by
  rcases h.rd with ⟨rfl, rfl⟩ | ⟨b, o, cap, rfl, h1, h2, _⟩
  ·exact ⟨_, _, rfl, by unfold maxLen; simp⟩
  ·exact ⟨_, _, rfl, by omega⟩
 unfold maxLen at hcap
 clear h
 obtain ⟨at_, hat, hsub⟩ : ∃ at_ : Nat, L.length - s.1.length = at_ ∧ (L.length : Int) - at_ = s.1.length := ⟨_, rfl, by omega⟩
 rw [hat] at c1
 have hal : at_ ≤ L.length := by omega
 obtain ⟨len, hlen⟩ : ∃ len, L.length = len := ⟨_, rfl⟩
 rw [hlen] at c0 hcap hal hsub ⊢
 obtain ⟨rl, hrl⟩ : ∃ rl, s.1.length = rl := ⟨_, rfl⟩
 rw [hrl] at hn hsub
 clear hat hlen hle hrl
 by_cases h0 : n < 0
 ·clear hsub hn
  go_enter Tryz.func46, Tryz.ntmps46
  go_wp2_with fail
  go_quiet (fail)
  go_wp2
  go_ret
  exact ⟨rfl, _, rfl⟩
 ·have h1 : (len : Int) - at_ < n := by omega
  have h2 : IntKind.i64.wrap ((len : Int) - at_) = len - at_ := IntWalk.i64_in _ (by omega)
  clear hsub hn
  go_enter Tryz.func46, Tryz.ntmps46
  go_wp2_with fail
  go_quiet (fail)
  go_wp2
  go_ret
  exact ⟨rfl, _, rfl⟩
theorem sub_nil (w : World) (a : Option Addr) (c : Nat) : (convert 28 9 (.slice a 0 c)).run Tryz.prog w = .ok (.string ⟨#[]⟩) w := by
 rcases a with _ | ⟨b, o, sp⟩
 ·exact conv_nil w 0 c
 ·have h := run_convert_bytes_string w 28 9 5 (some ⟨b, o, sp⟩) 0 c Tryz.underlying28 Tryz.underlying5 Tryz.underlying9
  rw [h]
  simp [Conv.bytesToString]
  rfl
set_option maxHeartbeats 2000000 in
set_option maxRecDepth 100000 in
theorem refTake_yes (X : Tl) (B M : Nat) (v : Value) (L : Bs) (s : St) (k : Nat) (w : World) (h : DocS X B w M v L s) (hn : k ≤ s.1.length) :
  Calls Tryz.prog 46 #[.pointer (some ⟨M, 0, none⟩), .int .i64 k] w fun e w' => e = .returned (.string (tx (s.1.take k))) ∧ ∃ q q', w' = ((w.drewN q).setCell ⟨M, 1, none⟩ (.int .i64 (L.length - (s.1.drop k).length : Nat))).drewN q' := by
 have c0 := h.doc.c0
 have c1 := h.doc.c1
 have f1 := h.doc.fz 1
 have hle := h.le
 have hsuf := h.suf
 have hbase := h.base
 have hlow := h.low
 obtain ⟨at_, hat⟩ : ∃ at_, L.length - s.1.length = at_ := ⟨_, rfl⟩
 have hnew : L.length - (s.1.drop k).length = at_ + k := by rw [List.length_drop]; omega
 rw [hnew]
 rw [hat] at c1 hsuf
 have hk2 : at_ + k ≤ L.length := by omega
 have hge : (k : Int) ≤ (L.length : Int) - at_ := by omega
 rcases h.rd with ⟨rfl, rfl⟩ | ⟨b, o, cap, rfl, h1, h2, h3⟩
 ·obtain rfl : k = 0 := by simp at hk2; omega
  obtain rfl : at_ = 0 := by simp at hk2; omega
  have hc := sub_nil
  clear h hle hn hsuf hat hnew hlow
  go_enter Tryz.func46, Tryz.ntmps46
  go_wp2_with fail
  go_quiet (fail)
  go_wp2_with fail
  go_quiet (fail)
  go_wp2
  go_ret
  exact ⟨rfl, _, _, rfl⟩
 ·have hcell : ∀ (W : World), (∀ a u, a.block = b → w.cell? a = some u → W.cell? a = some u) → ∀ c, (convert 28 9 (.slice (some ⟨b, o + at_, none⟩) k c)).run Tryz.prog W = .ok (.string (tx (s.1.take k))) W := by
   intro W hW c
   have hlen : (s.1.take k).length = k := by rw [List.length_take]; omega
   have := conv_slice W b (o + at_) c (s.1.take k) (fun i x hx => by
    apply hW _ _ rfl
    rw [Nat.add_assoc]
    apply h3 (at_ + i) x
    have hik : i < k := by have := (List.getElem?_eq_some_iff.1 hx).1; omega
    rw [List.getElem?_take_of_lt hik, hsuf, List.getElem?_drop] at hx
    exact hx)
   rw [hlen] at this
   exact this
  have hbM : k ≠ 0 → b < M := by
   intro hk
   rcases hlow with rfl | hl
   ·simp at hk2; omega
   ·exact Nat.lt_of_lt_of_le (hl b rfl) hbase
  have hconv : k ≠ 0 → ∀ q q' c, (convert 28 9 (.slice (some ⟨b, o + at_, none⟩) k c)).run Tryz.prog (((w.drewN q).setCell ⟨M, 1, none⟩ (.int .i64 (↑at_ + ↑k))).drewN q') = .ok (.string (tx (s.1.take k))) (((w.drewN q).setCell ⟨M, 1, none⟩ (.int .i64 (↑at_ + ↑k))).drewN q') := by
   intro hk q q' c
   have hbM' := hbM hk
   apply hcell
   intro a u ha hu
   rw [← hu]
   apply World.cell?_of_block
   exact Below.heap_setCell (w.drewN q) ⟨M, 1, none⟩ _ a.block (by simp; omega)
  have hadd : ((at_ + k : Nat) : Int) = at_ + k := by simp
  rw [hadd]
  obtain ⟨len, hlen⟩ : ∃ len, L.length = len := ⟨_, rfl⟩
  rw [hlen] at c0 h1 hk2 hge
  unfold maxLen at h2
  have HT : Hid (k = 0 → s.1.take k = []) := lhid (by rintro rfl; rfl)
  clear h hsuf hat hnew hlow h3 hcell hle hn hlen hadd hbase hbM
  have c1' : (at_ : Int) + k ≤ 9223372036854775807 := by omega
  have c2' : (at_ : Int) ≤ at_ + k := by omega
  have c3' : (at_ : Int) + k ≤ cap := by omega
  have c4' : (0 : Int) ≤ (at_ : Int) + k := by omega
  have hk0 : ¬ ((k : Int) < 0) := by omega
  have hgt : ¬ ((len : Int) - at_ < k) := by omega
  have e0 : IntKind.i64.wrap ((len : Int) - at_) = len - at_ := IntWalk.i64_in _ (by omega)
  have e1 : IntKind.i64.wrap ((at_ : Int) + k - k) = at_ := by rw [IntWalk.i64_in _ (by omega)]; omega
  have e2 : IntKind.i64.wrap (at_ : Int) = at_ := IntWalk.i64_in _ (by omega)
  have e3 : ((at_ : Int) + k).toNat - at_ = k := by omega
  have e4 : ((at_ : Int) + k).toNat = at_ + k := by omega
  by_cases hz : k = 0
  ·subst hz
   have hc := sub_nil
   rw [HT.out rfl]
   clear e1 e3 e4 hconv HT c1' c2' c3' c4' hk0 hgt
   have c3 : (at_ : Int) ≤ cap := by omega
   have hgt : ¬ ((len : Int) - at_ < 0) := by omega
   have c1' : (at_ : Int) ≤ 9223372036854775807 := by omega
   go_enter Tryz.func46, Tryz.ntmps46
   go_wp2_with fail
   go_quiet (fail)
   clear e0
   go_wp2_with fail
   go_quiet (fail)
   go_wp2
   all_goals
    go_ret
    exact ⟨rfl, _, _, rfl⟩
  ·have hconv := hconv hz
   have hne : cap ≠ at_ := by omega
   go_enter Tryz.func46, Tryz.ntmps46
   go_wp2_with fail
   go_quiet (fail)
   clear e0
   go_wp2_with fail
   go_quiet (fail)
   go_wp2
   go_ret
   exact ⟨rfl, _, _, rfl⟩
theorem refTake_any (X : Tl) (B M : Nat) (v : Value) (L : Bs) (s : St) (n : Int) (w : World) (h : DocS X B w M v L s) :
  Calls Tryz.prog 46 #[.pointer (some ⟨M, 0, none⟩), .int .i64 n] w fun e w' => e = .returned (.string (tx (takeL s n))) ∧ DocS X B w' M v L (takeS s n) ∧ Only M w w' := by
 by_cases hn : n < 0 ∨ (s.1.length : Int) < n
 ·rw [takeL_no hn, takeS_no hn]
  refine (refTake_no X B M v L s n w h hn).mono ?_
  rintro e w' ⟨rfl, q, rfl⟩
  have ho : Only M w (((w.drewN q).setCell ⟨M, 1, none⟩ (.int .i64 L.length)).setCell ⟨M, 2, none⟩ (.bool true)) := (((Only.refl M w).drewN q).own 1 _).own 2 _
  refine ⟨rfl, ⟨?_, by simp, by simp, rdB_below h.rd h.low (ho.below h.base h.bw), h.base, h.low, Nat.le_trans h.bw ho.size⟩, ho⟩
  exact ((h.doc.drewN q).set1 L.length).set2 true
 ·rw [takeL_yes hn, takeS_yes hn]
  obtain ⟨k, rfl⟩ := Int.eq_ofNat_of_zero_le (by omega : 0 ≤ n)
  refine (refTake_yes X B M v L s k w h (by omega)).mono ?_
  rintro e w' ⟨rfl, q, q', rfl⟩
  have ho : Only M w (((w.drewN q).setCell ⟨M, 1, none⟩ (.int .i64 (L.length - (s.1.drop k).length : Nat))).drewN q') := (((Only.refl M w).drewN q).own 1 _).drewN q'
  have hle := h.le
  refine ⟨rfl, ⟨((h.doc.drewN q).set1 _).drewN q', by simp; omega, ?_, rdB_below h.rd h.low (ho.below h.base h.bw), h.base, h.low, Nat.le_trans h.bw ho.size⟩, ho⟩
  show s.1.drop k = L.drop (L.length - (s.1.drop k).length)
  conv => lhs; rw [h.suf]
  rw [List.drop_drop, List.length_drop]
  congr 1
  omega
set_option maxHeartbeats 1000000 in
set_option maxRecDepth 100000 in
theorem refNum_out (v : Value) (n : Int) (w : World) (hn : n < 1 ∨ 8 < n) :
  Calls Tryz.prog 75 #[v, .int .i64 n] w fun e w' => e = .returned (.int .u64 0) ∧ w = w' := by
 by_cases h0 : n < 1
 all_goals
  go_enter Tryz.func75, Tryz.ntmps75
  go_wp2_with (fail)
  go_ret
  exact ⟨rfl, rfl⟩
set_option maxHeartbeats 2000000 in
set_option maxRecDepth 100000 in
theorem refNum_in (X : Tl) (B M : Nat) (v : Value) (L : Bs) (s : St) (n : Int) (w : World) (h : DocS X B w M v L s) (hn : ¬ (n < 1 ∨ 8 < n)) :
  Calls Tryz.prog 75 #[.pointer (some ⟨M, 0, none⟩), .int .i64 n] w fun e w' => e = .returned (.int .u64 (beB (takeL s n))) ∧ DocS X B w' M v L (takeS s n) ∧ Only M w w' := by
 have h1 : ¬ n < 1 := by omega
 have h2 : ¬ 8 < n := by omega
 have hl := takeL_len s n
 obtain ⟨l, hll⟩ : ∃ l, takeL s n = l := ⟨_, rfl⟩
 have HL := lhid hll
 rw [hll] at hl ⊢
 have hlen : l.length ≤ 8 := by omega
 have hsz : (tx l).size ≤ 8 := by rw [tx_size]; exact hlen
 clear hll hl hlen hn
 have HR := lhid h
 clear h
 go_enter Tryz.func75, Tryz.ntmps75
 go_wp2_with (go_at_call 46; (with_reducible refine (refTake_any X B M v L s n _ HR.out).mono ?_); rintro e w' ⟨rfl, hr, ho⟩; rw [HL.out]; have HR2 := lhid hr; have HO := lhid ho; clear hr ho)
 go_loop [7, 6] (fun i x => ∃ k : Nat, k ≤ (tx l).size ∧ i = .int .i64 k ∧ x = .int .u64 (beB (l.take k))) (fun i _ => (tx l).size - (intOf i).toNat)
 case atStart => exact ⟨0, Nat.zero_le _, rfl, rfl⟩
 case round =>
  obtain ⟨k, hk, rfl, rfl⟩ := hrel
  by_cases hlt : k < (tx l).size
  ·go_wp2_with fail
   go_round
   case rel =>
    exact ⟨k + 1, by omega, by go_num, val_int (ref_step l k hlt hsz)⟩
   case measure => simp [intOf]; omega
  ·have hke : l.take k = l := List.take_of_length_le (by rw [← tx_size]; omega)
   rw [hke]
   go_wp2_with fail
   go_ret
   exact ⟨rfl, HR2.out, HO.out⟩
theorem refNum_any (X : Tl) (B M : Nat) (v : Value) (L : Bs) (s : St) (n : Int) (w : World) (h : DocS X B w M v L s) :
  Calls Tryz.prog 75 #[.pointer (some ⟨M, 0, none⟩), .int .i64 n] w fun e w' => e = .returned (.int .u64 (numN s n)) ∧ DocS X B w' M v L (numS s n) ∧ Only M w w' := by
 by_cases hn : n < 1 ∨ 8 < n
 ·rw [numN_no hn, numS_no hn]
  refine (refNum_out _ n w hn).mono ?_
  rintro e w' ⟨rfl, rfl⟩
  exact ⟨rfl, h, Only.refl _ _⟩
 ·rw [numN_yes hn, numS_yes hn]
  exact refNum_in X B M v L s n w h hn
end Go.Proofs.YtgihfcimngogfaaGreat
