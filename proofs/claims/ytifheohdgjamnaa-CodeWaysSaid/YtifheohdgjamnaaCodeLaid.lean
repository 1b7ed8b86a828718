/- Contracts of code.laid, laidWay, isPlace. -/
import Derived.Test.YtifheohdgjamnaaCodeDecode
import Derived.Test.YtifheohdgjamnaaCodeEnc
namespace Go.Proofs.Ytifheohdgjamnaa
open Go.RowKit Go
set_option linter.unusedVariables false

theorem u8_wrap (y : Int) : IntKind.u8.wrap y = y % 256 := by
  simp [IntKind.wrap, IntKind.bits, IntKind.signed]
theorem by8_cell (z : Int) : Value.int .u8 ((by8 z).toNat : Int) = .int .u8 (IntKind.u8.wrap z) := by rw [by8_val, u8_wrap]
/-- v is a slice of these bytes, in a block that begins with them; nil, if there are none. -/
def LV (w : World) (v : Value) (bs : Bs) : Prop := (bs = [] ∧ v = .slice none 0 0) ∨ (bs ≠ [] ∧ ∃ g T f, v = .slice (some ⟨g, 0, none⟩) bs.length bs.length ∧ w.heap[g]? = some (.cells (bs.flatMap bytE).toArray T f))
def LOut (bs : Bs) (w : World) (e : Ending) (w' : World) : Prop := (∃ v, e = .returned v ∧ LV w' v bs) ∧ Below w.heap.size w w'
theorem lout_nil {bs : Bs} {w w' : World} (h : bs = []) (hb : Below w.heap.size w w') : LOut bs w (.returned (.slice none 0 0)) w' := ⟨⟨_, rfl, .inl ⟨h, rfl⟩⟩, hb⟩
theorem lout_ok {bs : Bs} {w w' : World} {g n : Nat} {T : TypeId} {c : Array Value} (h : bs ≠ []) (hg : w'.heap.size = g) (hc : c = (bs.flatMap bytE).toArray) (hn : n = bs.length) (hb : Below w.heap.size w w') : LOut bs w (.returned (.slice (some ⟨g, 0, none⟩) n n)) (w'.alloc (.cells c T)) := by
  subst hg hc hn
  exact ⟨⟨_, rfl, .inr ⟨h, _, _, _, rfl, heap_alloc_new w' _⟩⟩, hb.alloc hb.size _⟩
set_option maxHeartbeats 1000000 in
set_option maxRecDepth 100000 in
theorem isPlace_any (n : Int) (w : World) :
    Calls Try.prog 30 #[.int .i64 n] w fun e w' => e = .returned (.bool (decide (0 ≤ n ∧ n < 4000))) ∧ w = w' := by
  by_cases h0 : 0 ≤ n
  · by_cases h1 : n < 4000
    · rw [decide_eq_true ⟨h0, h1⟩]
      go_enter Try.func30, Try.ntmps30
      go_wp2_with fail
      go_ret
      exact ⟨ret_bool (by simp), rfl⟩
    · rw [decide_eq_false (fun e => h1 e.2)]
      go_enter Try.func30, Try.ntmps30
      go_wp2_with fail
      go_ret
      exact ⟨ret_bool (by simp), rfl⟩
  · rw [decide_eq_false (fun e => h0 e.1)]
    go_enter Try.func30, Try.ntmps30
    go_wp2_with fail
    go_ret
    exact ⟨rfl, rfl⟩
theorem isPlace_y (n : Int) (w : World) (h : 0 ≤ n ∧ n < 4000) :
    Calls Try.prog 30 #[.int .i64 n] w fun e w' => e = .returned (.bool true) ∧ w = w' := by
  have := isPlace_any n w
  rwa [decide_eq_true h] at this
theorem isPlace_n (n : Int) (w : World) (h : ¬ (0 ≤ n ∧ n < 4000)) :
    Calls Try.prog 30 #[.int .i64 n] w fun e w' => e = .returned (.bool false) ∧ w = w' := by
  have := isPlace_any n w
  rwa [decide_eq_false h] at this
set_option maxHeartbeats 2000000 in
set_option maxRecDepth 100000 in
theorem laidWay_any (x : Cop) (w : World) :
    Calls Try.prog 29 #[.agg #[.int .i64 x.pc, .int .i64 x.code, .int .i64 x.a, .int .i64 x.b]] w (LOut (laidR 6 x) w) := by
  have HR := lhid (rfl : laidR 6 x = if (0 ≤ x.pc ∧ x.pc < 4000) ∧ 0 ≤ x.a ∧ x.a < 4000 then [by8 x.code, by8 ((x.a - x.pc) / 256), by8 (x.a - x.pc)] else [])
  by_cases h0 : 0 ≤ x.pc ∧ x.pc < 4000
  · have H0 := lhid h0
    by_cases h1 : 0 ≤ x.a ∧ x.a < 4000
    · have HL : Hid (laidR 6 x = [by8 x.code, by8 ((x.a - x.pc) / 256), by8 (x.a - x.pc)]) := lhid (if_pos ⟨h0, h1⟩)
      have H1 := lhid h1
      obtain ⟨a1, a2⟩ := h0
      obtain ⟨a3, a4⟩ := h1
      have HW : Hid (wrap64 (x.a - x.pc) = x.a - x.pc) := lhid (IntWalk.wrap64_in _ (by omega))
      clear HR
      go_enter Try.func29, Try.ntmps29
      go_wp2_with fail
      with_reducible refine (isPlace_y _ _ H0.out).mono ?_
      rintro e w1 ⟨rfl, rfl⟩
      go_wp2_with fail
      with_reducible refine (isPlace_y _ _ H1.out).mono ?_
      rintro e w1 ⟨rfl, rfl⟩
      go_wp2_with fail
      go_ret
      rw [HL.out]
      exact lout_ok (by simp) (by simp) (by simp [bytE, by8_val]) rfl ((Below.refl _ _).alloc (Nat.le_refl _) _)
    · have HL : Hid (laidR 6 x = []) := lhid (if_neg (fun e => h1 e.2))
      have H1 := lhid h1
      clear h0 h1 HR
      go_enter Try.func29, Try.ntmps29
      go_wp2_with fail
      with_reducible refine (isPlace_y _ _ H0.out).mono ?_
      rintro e w1 ⟨rfl, rfl⟩
      go_wp2_with fail
      with_reducible refine (isPlace_n _ _ H1.out).mono ?_
      rintro e w1 ⟨rfl, rfl⟩
      go_wp2_with fail
      go_ret
      exact lout_nil HL.out ((Below.refl _ _).alloc (Nat.le_refl _) _)
  · have HL : Hid (laidR 6 x = []) := lhid (if_neg (fun e => h0 e.1))
    have H0 := lhid h0
    clear h0 HR
    go_enter Try.func29, Try.ntmps29
    go_wp2_with fail
    with_reducible refine (isPlace_n _ _ H0.out).mono ?_
    rintro e w1 ⟨rfl, rfl⟩
    go_wp2_with fail
    go_ret
    exact lout_nil HL.out ((Below.refl _ _).alloc (Nat.le_refl _) _)
set_option maxHeartbeats 2000000 in
set_option maxRecDepth 100000 in
theorem laid_0 (x : Cop) (w : World) (HR : Hid (rowN x.code = 0)) :
    Calls Try.prog 24 #[.agg #[.int .i64 x.pc, .int .i64 x.code, .int .i64 x.a, .int .i64 x.b]] w (LOut (laidR 0 x) w) := by
  go_enter Try.func24, Try.ntmps24
  go_wp2_with fail
  with_reducible refine (rowOf_r _ _ _ HR).mono ?_
  rintro e w1 ⟨rfl, rfl⟩
  go_wp2_with fail
  go_ret
  exact lout_nil rfl ((Below.refl _ _).alloc (Nat.le_refl _) _)
set_option maxHeartbeats 2000000 in
set_option maxRecDepth 100000 in
theorem laid_1 (x : Cop) (w : World) (HR : Hid (rowN x.code = 1)) :
    Calls Try.prog 24 #[.agg #[.int .i64 x.pc, .int .i64 x.code, .int .i64 x.a, .int .i64 x.b]] w (LOut (laidR 1 x) w) := by
  go_enter Try.func24, Try.ntmps24
  go_wp2_with fail
  with_reducible refine (rowOf_r _ _ _ HR).mono ?_
  rintro e w1 ⟨rfl, rfl⟩
  go_wp2_with fail
  go_ret
  unfold laidR
  exact lout_ok (by simp) (by simp) (by simp [bytE, by8_val]) rfl ((Below.refl _ _).alloc (Nat.le_refl _) _)
set_option maxHeartbeats 2000000 in
set_option maxRecDepth 100000 in
theorem laid_2 (x : Cop) (w : World) (HR : Hid (rowN x.code = 2)) :
    Calls Try.prog 24 #[.agg #[.int .i64 x.pc, .int .i64 x.code, .int .i64 x.a, .int .i64 x.b]] w (LOut (laidR 2 x) w) := by
  go_enter Try.func24, Try.ntmps24
  go_wp2_with fail
  with_reducible refine (rowOf_r _ _ _ HR).mono ?_
  rintro e w1 ⟨rfl, rfl⟩
  go_wp2_with fail
  go_ret
  unfold laidR
  exact lout_ok (by simp) (by simp) (by simp [bytE, by8_val]) rfl ((Below.refl _ _).alloc (Nat.le_refl _) _)
set_option maxHeartbeats 2000000 in
set_option maxRecDepth 100000 in
theorem laid_3 (x : Cop) (w : World) (HR : Hid (rowN x.code = 3)) :
    Calls Try.prog 24 #[.agg #[.int .i64 x.pc, .int .i64 x.code, .int .i64 x.a, .int .i64 x.b]] w (LOut (laidR 3 x) w) := by
  go_enter Try.func24, Try.ntmps24
  go_wp2_with fail
  with_reducible refine (rowOf_r _ _ _ HR).mono ?_
  rintro e w1 ⟨rfl, rfl⟩
  go_wp2_with fail
  go_ret
  unfold laidR
  exact lout_ok (by simp) (by simp) (by simp [bytE, by8_val]) rfl ((Below.refl _ _).alloc (Nat.le_refl _) _)
set_option maxHeartbeats 2000000 in
set_option maxRecDepth 100000 in
theorem laid_4 (x : Cop) (w : World) (HR : Hid (rowN x.code = 4)) :
    Calls Try.prog 24 #[.agg #[.int .i64 x.pc, .int .i64 x.code, .int .i64 x.a, .int .i64 x.b]] w (LOut (laidR 4 x) w) := by
  go_enter Try.func24, Try.ntmps24
  go_wp2_with fail
  with_reducible refine (rowOf_r _ _ _ HR).mono ?_
  rintro e w1 ⟨rfl, rfl⟩
  go_wp2_with fail
  go_ret
  unfold laidR
  exact lout_ok (by simp) (by simp) (by simp [bytE, by8_val]) rfl ((Below.refl _ _).alloc (Nat.le_refl _) _)
set_option maxHeartbeats 2000000 in
set_option maxRecDepth 100000 in
theorem laid_5 (x : Cop) (w : World) (HR : Hid (rowN x.code = 5)) :
    Calls Try.prog 24 #[.agg #[.int .i64 x.pc, .int .i64 x.code, .int .i64 x.a, .int .i64 x.b]] w (LOut (laidR 5 x) w) := by
  go_enter Try.func24, Try.ntmps24
  go_wp2_with fail
  with_reducible refine (rowOf_r _ _ _ HR).mono ?_
  rintro e w1 ⟨rfl, rfl⟩
  go_wp2_with fail
  go_ret
  unfold laidR
  exact lout_ok (by simp) (by simp) (by simp [bytE, by8_val]) rfl ((Below.refl _ _).alloc (Nat.le_refl _) _)
set_option maxHeartbeats 2000000 in
set_option maxRecDepth 100000 in
theorem laid_6 (x : Cop) (w : World) (HR : Hid (rowN x.code = 6)) :
    Calls Try.prog 24 #[.agg #[.int .i64 x.pc, .int .i64 x.code, .int .i64 x.a, .int .i64 x.b]] w (LOut (laidR 6 x) w) := by
  go_enter Try.func24, Try.ntmps24
  go_wp2_with fail
  with_reducible refine (rowOf_r _ _ _ HR).mono ?_
  rintro e w1 ⟨rfl, rfl⟩
  go_wp2_with fail
  with_reducible refine (laidWay_any x _).mono ?_
  rintro e w1 ⟨⟨v, rfl, hv⟩, hb⟩
  have HV := lhid hv
  have HB := lhid (((Below.refl w.heap.size w).alloc (Nat.le_refl _) _).trans (hb.mono (by simp)))
  clear hv hb
  go_wp2_with fail
  go_ret
  exact ⟨⟨_, rfl, HV.out⟩, HB.out⟩
set_option maxHeartbeats 2000000 in
set_option maxRecDepth 100000 in
theorem laid_7 (x : Cop) (w : World) (HR : Hid (rowN x.code = 7)) :
    Calls Try.prog 24 #[.agg #[.int .i64 x.pc, .int .i64 x.code, .int .i64 x.a, .int .i64 x.b]] w (LOut (laidR 7 x) w) := by
  go_enter Try.func24, Try.ntmps24
  go_wp2_with fail
  with_reducible refine (rowOf_r _ _ _ HR).mono ?_
  rintro e w1 ⟨rfl, rfl⟩
  go_wp2_with fail
  go_ret
  unfold laidR
  exact lout_ok (by simp) (by simp) (by simp [bytE, by8_val]) rfl ((Below.refl _ _).alloc (Nat.le_refl _) _)
theorem laid_any (x : Cop) (w : World) :
    Calls Try.prog 24 #[.agg #[.int .i64 x.pc, .int .i64 x.code, .int .i64 x.a, .int .i64 x.b]] w (LOut (laidP x) w) := by
  have hle := rowN_le x.code
  obtain ⟨r, hr⟩ : ∃ r, rowN x.code = r := ⟨_, rfl⟩
  unfold laidP
  rw [hr] at hle ⊢
  rcases row_ways hle with rfl | rfl | rfl | rfl | rfl | rfl | rfl | rfl
  · exact laid_0 x w hr
  · exact laid_1 x w hr
  · exact laid_2 x w hr
  · exact laid_3 x w hr
  · exact laid_4 x w hr
  · exact laid_5 x w hr
  · exact laid_6 x w hr
  · exact laid_7 x w hr
end Go.Proofs.Ytifheohdgjamnaa
