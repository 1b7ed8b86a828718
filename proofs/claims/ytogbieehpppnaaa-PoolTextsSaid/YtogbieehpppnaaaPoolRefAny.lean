/- Contract of the document's Read at all readers. -/
import Derived.Test.YtogbieehpppnaaaPoolRefRead
namespace Go.Proofs.Ytogbieehpppnaaa
open Go.RowKit Go
set_option linter.unusedVariables false

set_option maxHeartbeats 4000000 in
set_option maxRecDepth 100000 in
theorem refRead_end (B M : Nat) (v : Value) (L : Bs) (s : St) (w : World) (h : DocS B w M v L s) (hb : (numS s 2).2 = true) :
    Calls Try.prog 16 #[.pointer (some ⟨M, 0, none⟩)] w (RefOut B M v L (11, []) (numS s 2) w) := by
  have HR := lhid h
  have HB := lhid hb
  clear h hb
  go_enter Try.func16, Try.ntmps16
  go_wp2_with fail
  with_reducible refine (refNum_any B M v L s 2 _ HR.out).mono ?_
  rintro e w1 ⟨rfl, hd, ho⟩
  have HD1 := lhid hd
  have HO1 := lhid ho
  have d2 : w1.cell? ⟨M, 2, none⟩ = some (.bool true) := by rw [← HB.out]; exact hd.doc.c2
  clear hd ho
  go_wp2_with fail
  go_ret2
  exact refOut_err 11 (by decide) rfl rfl HD1.out HO1.out
set_option maxHeartbeats 4000000 in
set_option maxRecDepth 100000 in
theorem refRead_many (B M : Nat) (v : Value) (L : Bs) (s : St) (w : World) (h : DocS B w M v L s) (hb : (numS s 2).2 = false) (hn : numN s 2 = 0 ∨ 1000 < numN s 2) :
    Calls Try.prog 16 #[.pointer (some ⟨M, 0, none⟩)] w (RefOut B M v L (12, []) (numS s 2) w) := by
  have HR := lhid h
  have HB := lhid hb
  have hl := num2_lt s
  obtain ⟨n, hnn⟩ : ∃ n, numN s 2 = n := ⟨_, rfl⟩
  rw [hnn] at hn hl
  have HN := lhid hnn
  clear h hb hnn
  have hwrap : wrap64 (n : Int) = n := IntWalk.wrap64_in _ (by omega)
  rcases hn with rfl | hn
  · go_enter Try.func16, Try.ntmps16
    go_wp2_with fail
    with_reducible refine (refNum_any B M v L s 2 _ HR.out).mono ?_
    rintro e w1 ⟨rfl, hd, ho⟩
    rw [HN.out]
    have HD1 := lhid hd
    have HO1 := lhid ho
    have d2 : w1.cell? ⟨M, 2, none⟩ = some (.bool false) := by rw [← HB.out]; exact hd.doc.c2
    clear hd ho
    go_wp2_with fail
    go_ret2
    exact refOut_err 12 (by decide) rfl rfl HD1.out HO1.out
  · have c1 : ((n : Int) == 0) = false := by rw [beq_eq_false_iff_ne]; omega
    have c2 : (1000 : Int) < n := by omega
    go_enter Try.func16, Try.ntmps16
    go_wp2_with fail
    with_reducible refine (refNum_any B M v L s 2 _ HR.out).mono ?_
    rintro e w1 ⟨rfl, hd, ho⟩
    rw [HN.out]
    have HD1 := lhid hd
    have HO1 := lhid ho
    have d2 : w1.cell? ⟨M, 2, none⟩ = some (.bool false) := by rw [← HB.out]; exact hd.doc.c2
    clear hd ho
    go_wp2_with fail
    go_ret2
    exact refOut_err 12 (by decide) rfl rfl HD1.out HO1.out
theorem pool_pair (s : St) : (poolX s, poolL s) = afterR (rdHead s) := by
  unfold poolX poolL afterR
  split <;> rfl
theorem refRead_any (B M : Nat) (v : Value) (L : Bs) (s : St) (w : World) (h : DocS B w M v L s) :
    Calls Try.prog 16 #[.pointer (some ⟨M, 0, none⟩)] w (RefOut B M v L (poolX s, poolL s) (poolS s) w) := by
  rw [pool_pair]
  unfold poolS
  cases hb : (numS s 2).2
  · by_cases hn : numN s 2 = 0 ∨ 1000 < numN s 2
    · have hh : rdHead s = (12, [], numS s 2) := by unfold rdHead; rw [hb, if_neg (by simp), if_pos hn]
      rw [hh]
      exact refRead_many B M v L s w h hb hn
    · have hh : rdHead s = rdEnts (numN s 2 - 1) (numS s 2) [Ent.zero] := by unfold rdHead; rw [hb, if_neg (by simp), if_neg hn]
      have := refRead_main B M v L s w h _ rfl (by omega) (by omega) hb _ rfl
      rw [← hh] at this
      exact this
  · have hh : rdHead s = (11, [], numS s 2) := by unfold rdHead; rw [hb]; rfl
    rw [hh]
    exact refRead_end B M v L s w h hb
/-- A slice of constants of either reader, as a list; none may be nil. -/
def ConS (w : World) (v : Value) (l : List Con) : Prop :=
  (v = .slice none 0 0 ∧ l = []) ∨ ∃ g, v = .slice (some ⟨g, 0, none⟩) l.length l.length ∧ RowsAt w g 48 5 (l.map conV)
theorem con_at {w : World} {g T : Nat} {l : List Con} (h : RowsAt w g T 5 (l.map conV)) {i : Nat} {x : Con} (hx : l[i]? = some x) :
    w.cell? ⟨g, i * 5, none⟩ = some (.int .i64 x.kind) ∧ w.cell? ⟨g, i * 5 + 1, none⟩ = some (.int .i64 x.num) ∧ w.cell? ⟨g, i * 5 + 2, none⟩ = some (.string (tx x.text)) ∧ w.cell? ⟨g, i * 5 + 3, none⟩ = some (.string (tx x.name)) ∧ w.cell? ⟨g, i * 5 + 4, none⟩ = some (.string (tx x.desc)) := by
  have hr : (l.map conV)[i]? = some (conV x) := by rw [List.getElem?_map, hx]; rfl
  exact ⟨h.cell hr (j := 0) rfl, h.cell hr (j := 1) rfl, h.cell hr (j := 2) rfl, h.cell hr (j := 3) rfl, h.cell hr (j := 4) rfl⟩
set_option maxHeartbeats 4000000 in
set_option maxRecDepth 100000 in
theorem same_nil (w : World) :
    Calls Try.prog 17 #[.slice none 0 0, .slice none 0 0] w fun e w' => e = .returned (.bool true) ∧ ∃ n, w' = w.drewN n := by
  go_enter Try.func17, Try.ntmps17
  go_wp2_with fail
  go_loop [5] (fun i => i = .int .i64 0) (fun _ => 0)
  case atStart => rfl
  case round =>
    subst hrel
    go_wp2_with fail
    go_ret
    exact ⟨rfl, 0, rfl⟩
set_option maxHeartbeats 8000000 in
set_option maxRecDepth 100000 in
theorem same_rows (g g2 : Nat) (l : List Con) (w : World) (n : Nat) (hn : n ≤ 1000) (hl : l.length = n) (h1 : RowsAt w g 48 5 (l.map conV)) (h2 : RowsAt w g2 48 5 (l.map conV)) :
    Calls Try.prog 17 #[.slice (some ⟨g, 0, none⟩) n n, .slice (some ⟨g2, 0, none⟩) n n] w fun e w' => e = .returned (.bool true) ∧ ∃ n, w' = w.drewN n := by
  have H1 := lhid h1
  have H2 := lhid h2
  have HL := lhid hl
  clear h1 h2 hl
  go_enter Try.func17, Try.ntmps17
  go_wp2_with fail
  go_loopw [5] (fun i wr => ∃ (k q : Nat), k ≤ n ∧ i = .int .i64 k ∧ Hid (wr = w.drewN q)) (fun i _ => n - (intOf i).toNat)
  case atStart => exact ⟨0, 0, Nat.zero_le _, rfl, lhid rfl⟩
  case round =>
    obtain ⟨k, q, hk, rfl, HQ⟩ := hrel
    obtain rfl := HQ.out
    clear HQ
    by_cases hlt : k < n
    · obtain ⟨x, hx⟩ : ∃ x, l[k]? = some x := ⟨_, List.getElem?_eq_getElem (by rw [HL.out]; exact hlt)⟩
      obtain ⟨a0, a1, a2, a3, a4⟩ := con_at H1.out hx
      obtain ⟨b0, b1, b2, b3, b4⟩ := con_at H2.out hx
      clear hx
      go_wp2_with fail
      go_quiet (fail)
      go_wp2_with fail
      go_roundw
      case rel => exact ⟨k + 1, _, by omega, by go_num, lhid rfl⟩
      case measure => simp [intOf]; omega
    · go_wp2_with fail
      go_ret
      exact ⟨rfl, q, rfl⟩
end Go.Proofs.Ytogbieehpppnaaa
