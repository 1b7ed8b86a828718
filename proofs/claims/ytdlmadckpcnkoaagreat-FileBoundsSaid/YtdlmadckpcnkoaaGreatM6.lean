/- Texts of this claim, joined: PoolRefAny, PoolCall. -/
import Derived.Test.YtdlmadckpcnkoaaGreatJPoolRefRead
/- Contract of the document's Read at all readers. -/
namespace Go.Proofs.YtdlmadckpcnkoaaGreat
open Go.RowKit Go
set_option linter.unusedVariables false

set_option maxHeartbeats 4000000 in
set_option maxRecDepth 100000 in
theorem refRead_end (X : Tl) (B M : Nat) (v : Value) (L : Bs) (s : St) (w : World) (h : DocS X B w M v L s) (hb : (numS s 2).2 = true) :
    Calls Tryz.prog 33 #[.pointer (some ⟨M, 0, none⟩)] w (RefOut X B M v L (11, []) (numS s 2) w) := by
  have HR := lhid h
  have HB := lhid hb
  clear h hb
  go_enter Tryz.func33, Tryz.ntmps33
  go_wp2_with fail
  with_reducible refine (refNum_any X B M v L s 2 _ HR.out).mono ?_
  rintro e w1 ⟨rfl, hd, ho⟩
  have HD1 := lhid hd
  have HO1 := lhid ho
  have d2 : w1.cell? ⟨M, 2, none⟩ = some (.bool true) := by rw [← HB.out]; exact hd.doc.c2
  clear hd ho
  go_wp2_with fail
  go_ret2
  exact refOut_err 11 (by decide) rfl rfl HD1.out HO1.out
set_option maxHeartbeats 4000000 in
set_option maxRecDepth 100000 in
theorem refRead_many (X : Tl) (B M : Nat) (v : Value) (L : Bs) (s : St) (w : World) (h : DocS X B w M v L s) (hb : (numS s 2).2 = false) (hn : numN s 2 = 0 ∨ 1000 < numN s 2) :
    Calls Tryz.prog 33 #[.pointer (some ⟨M, 0, none⟩)] w (RefOut X B M v L (12, []) (numS s 2) w) := by
  have HR := lhid h
  have HB := lhid hb
  have hl := num2_lt s
  obtain ⟨n, hnn⟩ : ∃ n, numN s 2 = n := ⟨_, rfl⟩
  rw [hnn] at hn hl
  have HN := lhid hnn
  clear h hb hnn
  have hwrap : wrap64 (n : Int) = n := IntWalk.wrap64_in _ (by omega)
  rcases hn with rfl | hn
  · go_enter Tryz.func33, Tryz.ntmps33
    go_wp2_with fail
    with_reducible refine (refNum_any X B M v L s 2 _ HR.out).mono ?_
    rintro e w1 ⟨rfl, hd, ho⟩
    rw [HN.out]
    have HD1 := lhid hd
    have HO1 := lhid ho
    have d2 : w1.cell? ⟨M, 2, none⟩ = some (.bool false) := by rw [← HB.out]; exact hd.doc.c2
    clear hd ho
    go_wp2_with fail
    go_ret2
    exact refOut_err 12 (by decide) rfl rfl HD1.out HO1.out
  · have c1 : ((n : Int) == 0) = false := by rw [beq_eq_false_iff_ne]; omega
    have c2 : (1000 : Int) < n := by omega
    go_enter Tryz.func33, Tryz.ntmps33
    go_wp2_with fail
    with_reducible refine (refNum_any X B M v L s 2 _ HR.out).mono ?_
    rintro e w1 ⟨rfl, hd, ho⟩
    rw [HN.out]
    have HD1 := lhid hd
    have HO1 := lhid ho
    have d2 : w1.cell? ⟨M, 2, none⟩ = some (.bool false) := by rw [← HB.out]; exact hd.doc.c2
    clear hd ho
    go_wp2_with fail
    go_ret2
    exact refOut_err 12 (by decide) rfl rfl HD1.out HO1.out
theorem pool_pair (s : St) : (poolX s, poolL s) = afterR (rdHead s) := by
  unfold poolX poolL afterR
  split <;> rfl
theorem refRead_any (X : Tl) (B M : Nat) (v : Value) (L : Bs) (s : St) (w : World) (h : DocS X B w M v L s) :
    Calls Tryz.prog 33 #[.pointer (some ⟨M, 0, none⟩)] w (RefOut X B M v L (poolX s, poolL s) (poolS s) w) := by
  rw [pool_pair]
  unfold poolS
  cases hb : (numS s 2).2
  · by_cases hn : numN s 2 = 0 ∨ 1000 < numN s 2
    · have hh : rdHead s = (12, [], numS s 2) := by unfold rdHead; rw [hb, if_neg (by simp), if_pos hn]
      rw [hh]
      exact refRead_many X B M v L s w h hb hn
    · have hh : rdHead s = rdEnts (numN s 2 - 1) (numS s 2) [Ent.zero] := by unfold rdHead; rw [hb, if_neg (by simp), if_neg hn]
      have := refRead_main X B M v L s w h _ rfl (by omega) (by omega) hb _ rfl
      rw [← hh] at this
      exact this
  · have hh : rdHead s = (11, [], numS s 2) := by unfold rdHead; rw [hb]; rfl
    rw [hh]
    exact refRead_end X B M v L s w h hb
/-- A slice of constants of either reader, as a list; none may be nil. -/
def ConS (w : World) (v : Value) (l : List Con) : Prop :=
  (v = .slice none 0 0 ∧ l = []) ∨ ∃ g, v = .slice (some ⟨g, 0, none⟩) l.length l.length ∧ RowsAt w g 52 5 (l.map conV)
set_option maxHeartbeats 4000000 in
set_option maxRecDepth 100000 in
theorem same_nil (w : World) :
    Calls Tryz.prog 42 #[.slice none 0 0, .slice none 0 0] w fun e w' => e = .returned (.bool true) ∧ ∃ n, w' = w.drewN n := by
  go_enter Tryz.func42, Tryz.ntmps42
  go_wp2_with fail
  go_loop [5] (fun i => i = .int .i64 0) (fun _ => 0)
  case atStart => rfl
  case round =>
    subst hrel
    go_wp2_with fail
    go_ret
    exact ⟨rfl, 0, rfl⟩
set_option maxHeartbeats 8000000 in
set_option maxRecDepth 100000 in
theorem same_rows (g g2 : Nat) (l : List Con) (w : World) (n : Nat) (hn : n ≤ 1000) (hl : l.length = n) (h1 : RowsAt w g 52 5 (l.map conV)) (h2 : RowsAt w g2 52 5 (l.map conV)) :
    Calls Tryz.prog 42 #[.slice (some ⟨g, 0, none⟩) n n, .slice (some ⟨g2, 0, none⟩) n n] w fun e w' => e = .returned (.bool true) ∧ ∃ n, w' = w.drewN n := by
  have H1 := lhid h1
  have H2 := lhid h2
  have HL := lhid hl
  clear h1 h2 hl
  go_enter Tryz.func42, Tryz.ntmps42
  go_wp2_with fail
  go_loopw [5] (fun i wr => ∃ (k q : Nat), k ≤ n ∧ i = .int .i64 k ∧ Hid (wr = w.drewN q)) (fun i _ => n - (intOf i).toNat)
  case atStart => exact ⟨0, 0, Nat.zero_le _, rfl, lhid rfl⟩
  case round =>
    obtain ⟨k, q, hk, rfl, HQ⟩ := hrel
    obtain rfl := HQ.out
    clear HQ
    by_cases hlt : k < n
    · obtain ⟨x, hx⟩ : ∃ x, l[k]? = some x := ⟨_, List.getElem?_eq_getElem (by rw [HL.out]; exact hlt)⟩
      obtain ⟨a0, a1, a2, a3, a4⟩ := con_at H1.out hx
      obtain ⟨b0, b1, b2, b3, b4⟩ := con_at H2.out hx
      clear hx
      go_wp2_with fail
      go_quiet (fail)
      go_wp2_with fail
      go_roundw
      case rel => exact ⟨k + 1, _, by omega, by go_num, lhid rfl⟩
      case measure => simp [intOf]; omega
    · go_wp2_with fail
      go_ret
      exact ⟨rfl, q, rfl⟩
end Go.Proofs.YtdlmadckpcnkoaaGreat
/- Contracts of both readers' Read as callers meet them; readers that are new. -/
namespace Go.Proofs.YtdlmadckpcnkoaaGreat
open Go.RowKit Go
set_option linter.unusedVariables false

theorem resAll_len (l : List Ent) : ∀ (rest : List Ent) (acc : List Con), (resAll l rest acc).1 = 0 → (resAll l rest acc).2.length = acc.length + rest.length
  | [], acc, _ => by rw [resAll_nil]; simp
  | x :: rest, acc, h => by
    by_cases hx : (resOne l x).1 = 0
    · rw [resAll_on l x rest acc hx] at h ⊢
      rw [resAll_len l rest _ h]
      simp
      omega
    · rw [resAll_no l x rest acc hx] at h
      exact absurd h hx
theorem poolL_len (s : St) (h : poolX s = 0) : (poolL s).length ≤ 1000 := by
  unfold poolX at h
  unfold poolL
  by_cases hx : (rdHead s).1 = 0
  · rw [if_neg (by omega)] at h ⊢
    rw [resAll_len _ _ _ h]
    obtain ⟨t, h1, h2, _⟩ := rdHead_ok s hx
    rw [h1]
    simpa using h2
  · rw [if_pos hx] at h
    exact absurd h hx
theorem read_ok (R : Nat) (s : St) (l : List Con) (w : World) (h : Hid (Rdr w R s)) (hx : Hid (poolX s = 0)) (hl : Hid (poolL s = l)) :
    Calls Tryz.prog 65 #[.pointer (some ⟨R, 0, none⟩)] w fun e w' => (∃ g, e = .returned (.tuple #[.slice (some ⟨g, 0, none⟩) l.length l.length, .int .i64 0]) ∧ w.heap.size ≤ g ∧ RowsAt w' g 52 5 (l.map conV)) ∧ Rdr w' R (poolS s) ∧ Only R w w' := by
  refine (read_any R s w h.out).mono ?_
  rintro e w' ⟨he, h1, h2⟩
  rw [if_pos hx.out, hl.out] at he
  exact ⟨he, h1, h2⟩
theorem read_err (R : Nat) (s : St) (x : Nat) (w : World) (h : Hid (Rdr w R s)) (hx : Hid (poolX s = x)) (h0 : x ≠ 0) :
    Calls Tryz.prog 65 #[.pointer (some ⟨R, 0, none⟩)] w fun e w' => e = .returned (.tuple #[.slice none 0 0, .int .i64 x]) ∧ Rdr w' R (poolS s) ∧ Only R w w' := by
  refine (read_any R s w h.out).mono ?_
  rintro e w' ⟨he, h1, h2⟩
  rw [if_neg (by rw [hx.out]; exact h0), hx.out] at he
  exact ⟨he, h1, h2⟩
theorem refRead_ok (X : Tl) (B M : Nat) (v : Value) (L : Bs) (s : St) (l : List Con) (w : World) (h : Hid (DocS X B w M v L s)) (hx : Hid (poolX s = 0)) (hl : Hid (poolL s = l)) :
    Calls Tryz.prog 33 #[.pointer (some ⟨M, 0, none⟩)] w fun e w' => (∃ g, e = .returned (.tuple #[.slice (some ⟨g, 0, none⟩) l.length l.length, .int .i64 0]) ∧ w.heap.size ≤ g ∧ RowsAt w' g 52 5 (l.map conV)) ∧ DocS X B w' M v L (poolS s) ∧ Only M w w' := by
  refine (refRead_any X B M v L s w h.out).mono ?_
  rintro e w' ⟨he, h1, h2⟩
  rw [if_pos hx.out, hl.out] at he
  exact ⟨he, h1, h2⟩
theorem refRead_err (X : Tl) (B M : Nat) (v : Value) (L : Bs) (s : St) (x : Nat) (w : World) (h : Hid (DocS X B w M v L s)) (hx : Hid (poolX s = x)) (h0 : x ≠ 0) :
    Calls Tryz.prog 33 #[.pointer (some ⟨M, 0, none⟩)] w fun e w' => e = .returned (.tuple #[.slice none 0 0, .int .i64 x]) ∧ DocS X B w' M v L (poolS s) ∧ Only M w w' := by
  refine (refRead_any X B M v L s w h.out).mono ?_
  rintro e w' ⟨he, h1, h2⟩
  rw [if_neg (by rw [hx.out]; exact h0), hx.out] at he
  exact ⟨he, h1, h2⟩
/-- A slice over the beginning of a block of bytes. -/
theorem rdB_block {w : World} {g T : Nat} {f : Nat × Nat} {c : Array Value} {l : Bs} {n cap : Nat} (h : w.heap[g]? = some (.cells c T f)) (hn : n = l.length) (h1 : l.length ≤ cap) (h2 : cap ≤ maxLen) (hc : ∀ (i : Nat) (x : UInt8), l[i]? = some x → c[i]? = some (.int .u8 (x.toNat : Int))) : RdB w (.slice (some ⟨g, 0, none⟩) n cap) l := by
  subst hn
  refine .inr ⟨g, 0, cap, rfl, h1, h2, fun i x hx => ?_⟩
  rw [Nat.zero_add]
  exact heap_cell h (hc i x hx)
theorem rdr_two (w : World) (o : Obj) (l : Bs) : Rdr ((w.alloc o).alloc (.cells #[.string (tx l), .bool false] 111)) (w.heap.size + 1) (l, false) := new_two w o _
theorem rdr_new (w : World) (l : Bs) : Rdr (w.alloc (.cells #[.string (tx l), .bool false] 111)) w.heap.size (l, false) := heap_alloc_new w _
theorem rdB_low {w : World} {v : Value} {L : Bs} (h : RdB w v L) : L = [] ∨ ∀ x, v.ownBlock = some x → x < w.heap.size := by
  rcases h with ⟨rfl, rfl⟩ | ⟨b, o, cap, rfl, _, _, hc⟩
  · exact .inl rfl
  · cases L with
    | nil => exact .inl rfl
    | cons c r =>
      right
      intro x hx
      simp [Value.ownBlock] at hx
      subst hx
      exact World.block_lt_of_cell? w _ (hc 0 c rfl)
theorem docS_new {B : Nat} {w : World} {v : Value} {L : Bs} (h : RdB w v L) (hl : L = [] ∨ ∀ x, v.ownBlock = some x → x < B) (hB : B ≤ w.heap.size) :
    DocS Tl.bytes B (w.alloc (.cells #[v, .int .i64 0, .bool false] 69)) w.heap.size v L (L, false) := by
  refine ⟨?_, Nat.le_refl _, by simp, rdB_below h hl ((Below.refl B w).alloc hB _), hB, hl, by simp; omega⟩
  have := heap_alloc_new w (.cells #[v, .int .i64 0, .bool false] 69)
  unfold Doc
  rw [this]
  simp [Tl.bytes]
theorem rdB_form {w : World} {v : Value} {L : Bs} (h : RdB w v L) : ∃ A cap, v = .slice A L.length cap ∧ L.length ≤ maxLen := by
  rcases h with ⟨rfl, rfl⟩ | ⟨b, o, cap, rfl, h1, h2, _⟩
  · exact ⟨_, _, rfl, by unfold maxLen; simp⟩
  · exact ⟨_, _, rfl, by omega⟩
end Go.Proofs.YtdlmadckpcnkoaaGreat
