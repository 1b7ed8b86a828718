/- The anchor of layer 3's statements, and the walks of PoolRuns and PoolNamed. -/
import Derived.Test.YtogbieehpppnaaaPoolRefAny
namespace Go.Proofs.Ytogbieehpppnaaa
open Go.RowKit Go
set_option linter.unusedVariables false

theorem resAll_len (l : List Ent) : ∀ (rest : List Ent) (acc : List Con), (resAll l rest acc).1 = 0 → (resAll l rest acc).2.length = acc.length + rest.length
  | [], acc, _ => by rw [resAll_nil]; simp
  | x :: rest, acc, h => by
    by_cases hx : (resOne l x).1 = 0
    · rw [resAll_on l x rest acc hx] at h ⊢
      rw [resAll_len l rest _ h]
      simp
      omega
    · rw [resAll_no l x rest acc hx] at h
      exact absurd h hx
theorem poolL_len (s : St) (h : poolX s = 0) : (poolL s).length ≤ 1000 := by
  unfold poolX at h
  unfold poolL
  by_cases hx : (rdHead s).1 = 0
  · rw [if_neg (by omega)] at h ⊢
    rw [resAll_len _ _ _ h]
    obtain ⟨t, h1, h2, _⟩ := rdHead_ok s hx
    rw [h1]
    simpa using h2
  · rw [if_pos hx] at h
    exact absurd h hx
theorem read_ok (R : Nat) (s : St) (l : List Con) (w : World) (h : Hid (Rdr w R s)) (hx : Hid (poolX s = 0)) (hl : Hid (poolL s = l)) :
    Calls Try.prog 15 #[.pointer (some ⟨R, 0, none⟩)] w fun e w' => (∃ g, e = .returned (.tuple #[.slice (some ⟨g, 0, none⟩) l.length l.length, .int .i64 0]) ∧ w.heap.size ≤ g ∧ RowsAt w' g 48 5 (l.map conV)) ∧ Rdr w' R (poolS s) ∧ Only R w w' := by
  refine (read_any R s w h.out).mono ?_
  rintro e w' ⟨he, h1, h2⟩
  rw [if_pos hx.out, hl.out] at he
  exact ⟨he, h1, h2⟩
theorem read_err (R : Nat) (s : St) (x : Nat) (w : World) (h : Hid (Rdr w R s)) (hx : Hid (poolX s = x)) (h0 : x ≠ 0) :
    Calls Try.prog 15 #[.pointer (some ⟨R, 0, none⟩)] w fun e w' => e = .returned (.tuple #[.slice none 0 0, .int .i64 x]) ∧ Rdr w' R (poolS s) ∧ Only R w w' := by
  refine (read_any R s w h.out).mono ?_
  rintro e w' ⟨he, h1, h2⟩
  rw [if_neg (by rw [hx.out]; exact h0), hx.out] at he
  exact ⟨he, h1, h2⟩
theorem refRead_ok (B M : Nat) (v : Value) (L : Bs) (s : St) (l : List Con) (w : World) (h : Hid (DocS B w M v L s)) (hx : Hid (poolX s = 0)) (hl : Hid (poolL s = l)) :
    Calls Try.prog 16 #[.pointer (some ⟨M, 0, none⟩)] w fun e w' => (∃ g, e = .returned (.tuple #[.slice (some ⟨g, 0, none⟩) l.length l.length, .int .i64 0]) ∧ w.heap.size ≤ g ∧ RowsAt w' g 48 5 (l.map conV)) ∧ DocS B w' M v L (poolS s) ∧ Only M w w' := by
  refine (refRead_any B M v L s w h.out).mono ?_
  rintro e w' ⟨he, h1, h2⟩
  rw [if_pos hx.out, hl.out] at he
  exact ⟨he, h1, h2⟩
theorem refRead_err (B M : Nat) (v : Value) (L : Bs) (s : St) (x : Nat) (w : World) (h : Hid (DocS B w M v L s)) (hx : Hid (poolX s = x)) (h0 : x ≠ 0) :
    Calls Try.prog 16 #[.pointer (some ⟨M, 0, none⟩)] w fun e w' => e = .returned (.tuple #[.slice none 0 0, .int .i64 x]) ∧ DocS B w' M v L (poolS s) ∧ Only M w w' := by
  refine (refRead_any B M v L s w h.out).mono ?_
  rintro e w' ⟨he, h1, h2⟩
  rw [if_neg (by rw [hx.out]; exact h0), hx.out] at he
  exact ⟨he, h1, h2⟩
/-- A slice over the beginning of a block of bytes. -/
theorem rdB_block {w : World} {g T : Nat} {f : Nat × Nat} {c : Array Value} {l : Bs} {n cap : Nat} (h : w.heap[g]? = some (.cells c T f)) (hn : n = l.length) (h1 : l.length ≤ cap) (h2 : cap ≤ maxLen) (hc : ∀ (i : Nat) (x : UInt8), l[i]? = some x → c[i]? = some (.int .u8 (x.toNat : Int))) : RdB w (.slice (some ⟨g, 0, none⟩) n cap) l := by
  subst hn
  refine .inr ⟨g, 0, cap, rfl, h1, h2, fun i x hx => ?_⟩
  rw [Nat.zero_add]
  exact heap_cell h (hc i x hx)
theorem lit6 : ∀ (i : Nat) (x : UInt8), ([0, 2, 1, 0, 1, 65] : Bs)[i]? = some x → (#[.int .u8 0, .int .u8 2, .int .u8 1, .int .u8 0, .int .u8 1, .int .u8 65] : Array Value)[i]? = some (.int .u8 (x.toNat : Int))
  | 0, _, h | 1, _, h | 2, _, h | 3, _, h | 4, _, h | 5, _, h => by cases h; rfl
  | i + 6, _, h => by simp at h
theorem lit5 : ∀ (i : Nat) (x : UInt8), ([0, 2, 1, 0, 5] : Bs)[i]? = some x → (#[.int .u8 0, .int .u8 2, .int .u8 1, .int .u8 0, .int .u8 5] : Array Value)[i]? = some (.int .u8 (x.toNat : Int))
  | 0, _, h | 1, _, h | 2, _, h | 3, _, h | 4, _, h => by cases h; rfl
  | i + 5, _, h => by simp at h
theorem rdB6 (w : World) : RdB (w.alloc (.cells #[.int .u8 0, .int .u8 2, .int .u8 1, .int .u8 0, .int .u8 1, .int .u8 65] 5)) (.slice (some ⟨w.heap.size, 0, none⟩) 6 6) [0, 2, 1, 0, 1, 65] :=
  rdB_block (heap_alloc_new w _) rfl (by decide) (by unfold maxLen; omega) lit6
theorem rdB5 (w : World) : RdB (w.alloc (.cells #[.int .u8 0, .int .u8 2, .int .u8 1, .int .u8 0, .int .u8 5] 5)) (.slice (some ⟨w.heap.size, 0, none⟩) 5 5) [0, 2, 1, 0, 5] :=
  rdB_block (heap_alloc_new w _) rfl (by decide) (by unfold maxLen; omega) lit5
theorem rdr_two (w : World) (o : Obj) (l : Bs) : Rdr ((w.alloc o).alloc (.cells #[.string (tx l), .bool false] 58)) (w.heap.size + 1) (l, false) := new_two w o _
theorem rdr_new (w : World) (l : Bs) : Rdr (w.alloc (.cells #[.string (tx l), .bool false] 58)) w.heap.size (l, false) := heap_alloc_new w _
set_option maxHeartbeats 4000000 in
set_option maxRecDepth 100000 in
theorem holds_any (w : World) :
    Calls Try.prog 8 #[] w fun e w' => e = .returned (.bool true) ∧ Below w.heap.size w w' := by
  have HX1 : Hid (poolX ([0, 2, 1, 0, 1, 65], false) = 0) := lhid rfl
  have HL1 : Hid (poolL ([0, 2, 1, 0, 1, 65], false) = [Con.zero, ⟨1, 0, [65], [], []⟩]) := lhid rfl
  have HX2 : Hid (poolX ([0, 2, 1, 0, 5], false) = 11) := lhid rfl
  go_enter Try.func8, Try.ntmps8
  go_wp2_with fail
  with_reducible refine (from_any _ [0, 2, 1, 0, 1, 65] _ (rdB6 w)).mono ?_
  rintro e w1 ⟨rfl, rfl⟩
  go_wp2_with fail
  with_reducible refine (read_ok _ ([0, 2, 1, 0, 1, 65], false) [Con.zero, ⟨1, 0, [65], [], []⟩] _ (lhid (rdr_two w _ _)) HX1 HL1).mono ?_
  rintro e w2 ⟨⟨g, rfl, hg, hrows⟩, hr, ho⟩
  have HB2 := lhid ((((Below.refl w.heap.size w).alloc (Nat.le_refl _) _).alloc (by simp) _).trans (ho.below (by simp) (by simp; omega)))
  obtain ⟨a0, a1, a2, a3, a4⟩ := con_at hrows (i := 1) rfl
  have hgl := hrows.lt
  have HROWS := lhid hrows
  have hw2 := HB2.out.size
  clear ho hr hg hrows
  go_wp2_with fail
  with_reducible refine (from_any _ [0, 2, 1, 0, 5] _ (rdB5 w2)).mono ?_
  rintro e w3 ⟨rfl, rfl⟩
  have hne : (11 : Nat) ≠ 0 := by decide
  go_wp2_with fail
  with_reducible refine (read_err _ ([0, 2, 1, 0, 5], false) 11 _ (lhid (rdr_two w2 _ _)) HX2 hne).mono ?_
  rintro e w4 ⟨rfl, hr, ho⟩
  have hb4 := (((Below.refl w2.heap.size w2).alloc (Nat.le_refl _) _).alloc (by simp) _).trans (ho.below (by simp) (by simp; omega))
  have HB4 := lhid (HB2.out.trans (hb4.mono hw2))
  have hrows := below_rows HROWS.out hb4
  clear a0 a1 a2 a3 a4 hb4
  obtain ⟨a0, a1, a2, a3, a4⟩ := con_at hrows (i := 1) rfl
  have e2 : w4.cell? ⟨g, 1 * 5 + 2, none⟩ = some (.string ⟨#[65]⟩) := a2
  have e3 : w4.cell? ⟨g, 1 * 5 + 3, none⟩ = some (.string ⟨#[]⟩) := a3
  have e4 : w4.cell? ⟨g, 1 * 5 + 4, none⟩ = some (.string ⟨#[]⟩) := a4
  clear hr ho hrows a2 a3 a4
  go_wp2_with fail
  go_ret
  exact ⟨rfl, HB4.out⟩

theorem rdB_low {w : World} {v : Value} {L : Bs} (h : RdB w v L) : L = [] ∨ ∀ x, v.ownBlock = some x → x < w.heap.size := by
  rcases h with ⟨rfl, rfl⟩ | ⟨b, o, cap, rfl, _, _, hc⟩
  · exact .inl rfl
  · cases L with
    | nil => exact .inl rfl
    | cons c r =>
      right
      intro x hx
      simp [Value.ownBlock] at hx
      subst hx
      exact World.block_lt_of_cell? w _ (hc 0 c rfl)
theorem docS_new {B : Nat} {w : World} {v : Value} {L : Bs} (h : RdB w v L) (hl : L = [] ∨ ∀ x, v.ownBlock = some x → x < B) (hB : B ≤ w.heap.size) :
    DocS B (w.alloc (.cells #[v, .int .i64 0, .bool false] 29)) w.heap.size v L (L, false) := by
  refine ⟨?_, Nat.le_refl _, by simp, rdB_below h hl ((Below.refl B w).alloc hB _), hB, hl, by simp; omega⟩
  have := heap_alloc_new w (.cells #[v, .int .i64 0, .bool false] 29)
  unfold Doc
  rw [this]
  simp
theorem rdB_form {w : World} {v : Value} {L : Bs} (h : RdB w v L) : ∃ A cap, v = .slice A L.length cap ∧ L.length ≤ maxLen := by
  rcases h with ⟨rfl, rfl⟩ | ⟨b, o, cap, rfl, h1, h2, _⟩
  · exact ⟨_, _, rfl, by unfold maxLen; simp⟩
  · exact ⟨_, _, rfl, by omega⟩
set_option maxHeartbeats 4000000 in
set_option maxRecDepth 100000 in
theorem PoolNamed_walk (s : ByteArray) (n : Int) (w : World) (hs : s.size ≤ maxLen) :
    Calls Try.prog 6 #[.string s, .int .i64 n] w fun e w' => e = .returned (.bool true) ∧ Below w.heap.size w w' := by
  obtain ⟨b, hb⟩ : ∃ b, namedB s.data.toList = b := ⟨_, rfl⟩
  have HS := lhid hs
  have HB := lhid hb
  have hbb : (b == b) = true := by cases b <;> rfl
  clear hs hb
  go_enter Try.func6, Try.ntmps6
  go_wp2_with fail
  with_reducible refine (holds_any _).mono ?_
  rintro e w1 ⟨rfl, hw⟩
  have HW := lhid hw
  clear hw
  go_wp2_with fail
  with_reducible refine (left_nil _).mono ?_
  rintro e w2 ⟨rfl, rfl⟩
  go_wp2_with fail
  with_reducible refine (named_any s _ HS.out).mono ?_
  rintro e w2 ⟨rfl, q, rfl⟩
  rw [HB.out]
  go_wp2_with fail
  with_reducible refine (refNamed_any s _ HS.out).mono ?_
  rintro e w2 ⟨rfl, rfl⟩
  rw [HB.out]
  go_wp2_with fail
  with_reducible refine (num_nil n _).mono ?_
  rintro e w2 ⟨rfl, rfl⟩
  go_wp2_with fail
  with_reducible refine (take_nil n _).mono ?_
  rintro e w2 ⟨rfl, rfl⟩
  go_wp2_with fail
  go_ret
  exact ⟨rfl, below_drewN HW.out q⟩
end Go.Proofs.Ytogbieehpppnaaa
