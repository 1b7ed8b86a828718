/- Texts of this claim, joined: CLivBefore, CLivIdx, CLivAfter, CLivAcross, CLivNil. -/
import Derived.Test.YtoommeiiadobfaaJCLivOf
/- Is a register live ahead of a place: the program's Before. -/
namespace Go.Proofs.Ytoommeiiadobfaa
open Go.RowKit Go
set_option linter.unusedVariables false
set_option linter.unusedSimpArgs false
def TabM (f : FuI) (n R : Nat) (w : World) (TB : Nat) : Prop := ∃ (NA : Option Addr) (nc : Nat) (u : Value) (L : List (Nat → Mk)), w.heap[TB]? = some (.cells #[.slice NA n nc, u] 49 (0, 0)) ∧ RdX Tru 1 (LsE Tru) w (.slice NA n nc) ((List.range n).map fun i => nextL f (i : Nat)) ∧ RdX Tru 1 (MkE n Tru) w u L ∧ L.length = (R + 63) / 64 ∧ ∀ (k : Nat) m, L[k]? = some m → ∀ b i, b < 64 → i < n → ((m i).getLsbD b = true ↔ Rd f ((64 * k + b : Nat) : Int) i)
theorem TabM.below {f : FuI} {n R TB : Nat} {w w' : World} (h : TabM f n R w TB) (hb : Below w.heap.size w w') : TabM f n R w' TB := by
 obtain ⟨NA, nc, u, L, h1, h2, h3, h4, h5⟩ := h
 exact ⟨NA, nc, u, L, heap_keep h1 hb, h2.below (keptX_ls _) hb, h3.below (keptX_mk _ _) hb, h4, h5⟩
theorem before_nil (i r : Int) (w : World) : Calls Try.prog 10 #[.pointer none, .int .i64 i, .int .i64 r] w fun e w' => e = .returned (.bool false) ∧ w' = w := by
 go_enter Try.func10, Try.ntmps10
 go_wp2_with fail
 go_ret
 exact ⟨rfl, rfl⟩
def BefOut (f : FuI) (n R : Nat) (i r : Int) (w : World) (e : Ending) (w' : World) : Prop := ∃ z : Bool, e = .returned (.bool z) ∧ (z = true ↔ ∃ a b : Nat, i = a ∧ r = b ∧ a < n ∧ b < 64 * ((R + 63) / 64) ∧ Rd f r a) ∧ w' = w
set_option maxHeartbeats 16000000 in
set_option maxRecDepth 100000 in
theorem before_c (f : FuI) (n R TB : Nat) (i r : Int) (w : World) (h : Hid (TabM f n R w TB)) (hz : Hid (R ≤ 20000 ∧ n ≤ 20000)) : Calls Try.prog 10 #[.pointer (some ⟨TB, 0, none⟩), .int .i64 i, .int .i64 r] w fun e w' => BefOut f n R i r w e w' := by
 obtain ⟨NA, nc, u, L, hT, h2, h3, h4, h5⟩ := h.out
 obtain ⟨A, c, hu⟩ := h3.shape
 subst hu
 have q0 := heap_cell (i := 0) hT rfl
 have q1 := heap_cell (i := 1) hT rfl
 have HT := lhid hT
 have HL := lhid h3
 have HK := lhid h4
 have HSP := lhid h5
 obtain ⟨z1, hz1⟩ : ∃ z1, (decide (0 ≤ i) && decide (i < n)) = z1 := ⟨_, rfl⟩
 have HZ1 := lhid hz1
 have hwK : wrap64 ((L.length : Int) * 64) = (L.length : Int) * 64 := IntWalk.wrap64_in _ (by have := hz.out; omega)
 obtain ⟨z2, hz2⟩ : ∃ z2, (decide (0 ≤ r) && decide (r < (L.length : Int) * 64)) = z2 := ⟨_, rfl⟩
 have HZ2 := lhid hz2
 clear hT h2 h3 h4 h5 hz1 hz2 h
 go_enter Try.func10, Try.ntmps10
 go_wp2_with fail
 with_reducible refine (isAt_c i n z1 _ HZ1).mono ?_
 rintro e w1 ⟨rfl, rfl⟩
 cases z1 with
 | false =>
  go_wp2_with fail
  go_ret
  refine ⟨false, rfl, ⟨fun h => (by cases h), ?_⟩, rfl⟩
  rintro ⟨a, b, ha, hb, han, _⟩
  have h1 := HZ1.out
  simp at h1
  omega
 | true =>
  go_wp2_with fail
  with_reducible refine (isAt_c r ((L.length : Int) * 64) z2 _ HZ2).mono ?_
  rintro e w2 ⟨rfl, rfl⟩
  cases z2 with
  | false =>
   go_wp2_with fail
   go_ret
   refine ⟨false, rfl, ⟨fun h => (by cases h), ?_⟩, rfl⟩
   rintro ⟨a, b, ha, hb, han, hbn, _⟩
   have h1 := HZ2.out
   have h2 := HK.out
   simp at h1
   omega
  | true =>
   obtain ⟨a, ha, han⟩ : ∃ a : Nat, i = a ∧ a < n := by
    have h1 := HZ1.out
    simp at h1
    exact ⟨i.toNat, by omega, by omega⟩
   obtain ⟨b, hb, hbn⟩ : ∃ b : Nat, r = b ∧ b < L.length * 64 := by
    have h1 := HZ2.out
    simp at h1
    exact ⟨r.toNat, by omega, by omega⟩
   subst ha hb
   obtain ⟨k1, hk1⟩ : ∃ k1, b / 64 = k1 := ⟨_, rfl⟩
   obtain ⟨k2, hk2⟩ : ∃ k2, b % 64 = k2 := ⟨_, rfl⟩
   have hLs : L.length ≤ 20000 := by have h1 := HK.out; have h2 := hz.out; omega
   obtain ⟨m, hm⟩ : ∃ m, L[k1]? = some m := ⟨_, List.getElem?_eq_getElem (by omega)⟩
   obtain ⟨g, o, cc, hA, _, ⟨gm, hcc, _, hmk⟩, hcell⟩ := HL.out.at' hm
   subst hA hcc
   have c0 : w2.cell? ⟨g, o + k1, none⟩ = some (.slice (some ⟨gm, 0, none⟩) n n) := by have h1 := hcell 0 _ rfl; simpa using h1
   have c1 := hmk.at' han
   have hk3 : (k1 : Int) < L.length := by omega
   have hk4 : (a : Int) < n := by omega
   have hk5 : k2 < 64 := by omega
   have hq : wrap64 ((b : Int) / 64) = (k1 : Int) := by rw [IntWalk.wrap64_in _ (by omega)]; omega
   have hr : wrap64 ((b : Int) % 64) = (k2 : Int) := by rw [IntWalk.wrap64_in _ (by omega)]; omega
   have HR2 : Hid ((b : Int) % 64 = (k2 : Int)) := lhid (by omega)
   have HBK : Hid (b = 64 * k1 + k2 ∧ b < L.length * 64) := lhid (by omega)
   have HM := lhid hm
   clear hm hmk hk1 hk2 hbn hLs
   clear hcell
   go_wp2_with fail
   rw [HR2.out]
   with_reducible refine (has_c (m a) k2 hk5 _).mono ?_
   rintro e w3 ⟨rfl, rfl⟩
   go_wp2_with fail
   go_ret
   refine ⟨_, rfl, ?_, rfl⟩
   have h1 := HSP.out k1 m HM.out k2 a hk5 han
   rw [BitVec.getLsbD_eq_getElem hk5] at h1
   rw [h1, ← HBK.out.1]
   constructor
   ·intro h9
    exact ⟨a, b, rfl, rfl, han, by have h2 := HK.out; have h3 := HBK.out.2; omega, h9⟩
   ·rintro ⟨a2, b2, ha, hb, _, _, h9⟩
    have e1 : a = a2 := by omega
    have e2 : b = b2 := by omega
    subst e1 e2
    exact h9
end Go.Proofs.Ytoommeiiadobfaa
/- Is one of a list's places such that a register is live ahead of it: ContainsFunc over the closures of After and Across. -/
namespace Go.Proofs.Ytoommeiiadobfaa
open Go.RowKit Go
set_option linter.unusedVariables false
set_option linter.unusedSimpArgs false
def BefP (f : FuI) (n R : Nat) (z r : Int) : Prop := ∃ a b : Nat, z = a ∧ r = b ∧ a < n ∧ b < 64 * ((R + 63) / 64) ∧ Rd f r a
set_option maxHeartbeats 16000000 in
set_option maxRecDepth 100000 in
theorem one_af (f : FuI) (n R TB p1 p2 : Nat) (z r : Int) (w : World) (h : Hid (TabM f n R w TB)) (hz : Hid (R ≤ 20000 ∧ n ≤ 20000)) (h1 : Hid (w.cell? ⟨p1, 0, none⟩ = some (.pointer (some ⟨TB, 0, none⟩)) ∧ w.cell? ⟨p2, 0, none⟩ = some (.int .i64 r))) :
  Calls Try.prog 35 #[.int .i64 z, .pointer (some ⟨p1, 0, none⟩), .pointer (some ⟨p2, 0, none⟩)] w fun e w' => ∃ b : Bool, e = .returned (.bool b) ∧ (b = true ↔ BefP f n R z r) ∧ w' = w := by
 obtain ⟨c1, c2⟩ := h1.out
 go_enter Try.func35, Try.ntmps35
 go_wp2_with fail
 with_reducible refine (before_c f n R TB z r _ h hz).mono ?_
 rintro e w1 ⟨b, rfl, hb, rfl⟩
 go_wp2_with fail
 go_ret
 exact ⟨b, rfl, hb, rfl⟩
def IdxOut (f : FuI) (n R : Nat) (l : List Int) (r : Int) (w : World) (e : Ending) (w' : World) : Prop := ∃ i : Int, e = .returned (.int .i64 i) ∧ (0 ≤ i ↔ ∃ z ∈ l, BefP f n R z r) ∧ w' = w
set_option maxHeartbeats 16000000 in
set_option maxRecDepth 100000 in
theorem idx_af (f : FuI) (n R TB p1 p2 : Nat) (l : List Int) (A : Option Addr) (cap : Nat) (r : Int) (w : World) (h : Hid (TabM f n R w TB)) (hz : Hid (R ≤ 20000 ∧ n ≤ 20000)) (h1 : Hid (w.cell? ⟨p1, 0, none⟩ = some (.pointer (some ⟨TB, 0, none⟩)) ∧ w.cell? ⟨p2, 0, none⟩ = some (.int .i64 r))) (hl : Hid (RdX Tru 1 NuE w (.slice A l.length cap) l)) :
  Calls Try.prog 63 #[.slice A l.length cap, .func (.func 35) #[] #[.pointer (some ⟨p1, 0, none⟩), .pointer (some ⟨p2, 0, none⟩)]] w fun e w' => IdxOut f n R l r w e w' := by
 have HLN := lhid hl.out.len
 go_enter Try.func63, Try.ntmps63
 go_wp2_with fail
 go_loopg [8] l.length (fun g s wr => ∃ k : Nat, g = l.length - k ∧ s = .int .i64 k ∧ k ≤ l.length ∧ wr = w ∧ Hid (∀ z ∈ l.take k, ¬ BefP f n R z r))
 case atStart => exact ⟨0, rfl, rfl, Nat.zero_le _, rfl, lhid (fun z hz => by simp at hz)⟩
 case round =>
  obtain ⟨k, rfl, rfl, hk, rfl, HNo⟩ := hrel
  by_cases hlt : k < l.length
  ·have k3 : (k : Int) < l.length := Int.ofNat_lt.2 hlt
   have hwk : wrap64 ((k : Int) + 1) = ((k + 1 : Nat) : Int) := by rw [IntWalk.wrap64_in _ (by have := HLN.out; omega)]; omega
   obtain ⟨z, hzk⟩ : ∃ z, l[k]? = some z := ⟨_, List.getElem?_eq_getElem hlt⟩
   obtain ⟨gl, ol, hA, c0⟩ := nu_cell hl.out hzk
   subst hA
   have HZK := lhid hzk
   clear hzk
   go_wp2_with fail
   with_reducible refine (one_af f n R TB p1 p2 z r _ h hz h1).mono ?_
   rintro e w1 ⟨b, rfl, hb, rfl⟩
   have HB := lhid hb
   clear hb
   cases b with
   | true =>
    go_wp2_with fail
    go_ret
    exact ⟨(k : Int), rfl, ⟨fun _ => ⟨z, List.mem_of_getElem? HZK.out, HB.out.1 (by first | rfl | trivial)⟩, fun _ => by omega⟩, rfl⟩
   | false =>
    go_wp2_with fail
    go_roundg (l.length - (k + 1))
    case measure => omega
    case rel => exact ⟨k + 1, rfl, by first | rfl | rw [hwk], by omega, rfl, lhid (fun y hy => by
     rw [take_snoc HZK.out] at hy
     rcases List.mem_append.1 hy with h9 | h9
     ·exact HNo.out y h9
     ·rw [List.mem_singleton] at h9
      subst h9
      intro h10
      have := HB.out.2 h10
      cases this)⟩
  ·have k3 : ¬ (k : Int) < l.length := by omega
   have HAll : Hid (∀ z ∈ l, ¬ BefP f n R z r) := lhid (by have h9 := HNo.out; rw [List.take_of_length_le (by omega)] at h9; exact h9)
   go_wp2_with fail
   go_ret
   exact ⟨-1, rfl, ⟨fun h9 => absurd h9 (by omega), fun ⟨z, h9, h10⟩ => absurd h10 (HAll.out z h9)⟩, rfl⟩
theorem has_af (f : FuI) (n R TB p1 p2 : Nat) (l : List Int) (A : Option Addr) (cap : Nat) (r : Int) (w : World) (h : Hid (TabM f n R w TB)) (hz : Hid (R ≤ 20000 ∧ n ≤ 20000)) (h1 : Hid (w.cell? ⟨p1, 0, none⟩ = some (.pointer (some ⟨TB, 0, none⟩)) ∧ w.cell? ⟨p2, 0, none⟩ = some (.int .i64 r))) (hl : Hid (RdX Tru 1 NuE w (.slice A l.length cap) l)) :
  Calls Try.prog 34 #[.slice A l.length cap, .func (.func 35) #[] #[.pointer (some ⟨p1, 0, none⟩), .pointer (some ⟨p2, 0, none⟩)]] w fun e w' => ∃ b : Bool, e = .returned (.bool b) ∧ (b = true ↔ ∃ z ∈ l, BefP f n R z r) ∧ w' = w := by
 go_enter Try.func34, Try.ntmps34
 go_wp2_with fail
 with_reducible refine (idx_af f n R TB p1 p2 l A cap r _ h hz h1 hl).mono ?_
 rintro e w1 ⟨i, rfl, hi, rfl⟩
 have HI := lhid hi
 clear hi
 go_wp2_with fail
 go_ret
 exact ⟨decide (0 ≤ i), rfl, by rw [decide_eq_true_eq]; exact HI.out, rfl⟩
set_option maxHeartbeats 16000000 in
set_option maxRecDepth 100000 in
theorem one_ac (f : FuI) (n R TB p1 p2 : Nat) (z r : Int) (w : World) (h : Hid (TabM f n R w TB)) (hz : Hid (R ≤ 20000 ∧ n ≤ 20000)) (h1 : Hid (w.cell? ⟨p1, 0, none⟩ = some (.pointer (some ⟨TB, 0, none⟩)) ∧ w.cell? ⟨p2, 0, none⟩ = some (.int .i64 r))) :
  Calls Try.prog 39 #[.int .i64 z, .pointer (some ⟨p1, 0, none⟩), .pointer (some ⟨p2, 0, none⟩)] w fun e w' => ∃ b : Bool, e = .returned (.bool b) ∧ (b = true ↔ BefP f n R z r) ∧ w' = w := by
 obtain ⟨c1, c2⟩ := h1.out
 go_enter Try.func39, Try.ntmps39
 go_wp2_with fail
 with_reducible refine (before_c f n R TB z r _ h hz).mono ?_
 rintro e w1 ⟨b, rfl, hb, rfl⟩
 go_wp2_with fail
 go_ret
 exact ⟨b, rfl, hb, rfl⟩
set_option maxHeartbeats 16000000 in
set_option maxRecDepth 100000 in
theorem idx_ac (f : FuI) (n R TB p1 p2 : Nat) (l : List Int) (A : Option Addr) (cap : Nat) (r : Int) (w : World) (h : Hid (TabM f n R w TB)) (hz : Hid (R ≤ 20000 ∧ n ≤ 20000)) (h1 : Hid (w.cell? ⟨p1, 0, none⟩ = some (.pointer (some ⟨TB, 0, none⟩)) ∧ w.cell? ⟨p2, 0, none⟩ = some (.int .i64 r))) (hl : Hid (RdX Tru 1 NuE w (.slice A l.length cap) l)) :
  Calls Try.prog 63 #[.slice A l.length cap, .func (.func 39) #[] #[.pointer (some ⟨p1, 0, none⟩), .pointer (some ⟨p2, 0, none⟩)]] w fun e w' => IdxOut f n R l r w e w' := by
 have HLN := lhid hl.out.len
 go_enter Try.func63, Try.ntmps63
 go_wp2_with fail
 go_loopg [8] l.length (fun g s wr => ∃ k : Nat, g = l.length - k ∧ s = .int .i64 k ∧ k ≤ l.length ∧ wr = w ∧ Hid (∀ z ∈ l.take k, ¬ BefP f n R z r))
 case atStart => exact ⟨0, rfl, rfl, Nat.zero_le _, rfl, lhid (fun z hz => by simp at hz)⟩
 case round =>
  obtain ⟨k, rfl, rfl, hk, rfl, HNo⟩ := hrel
  by_cases hlt : k < l.length
  ·have k3 : (k : Int) < l.length := Int.ofNat_lt.2 hlt
   have hwk : wrap64 ((k : Int) + 1) = ((k + 1 : Nat) : Int) := by rw [IntWalk.wrap64_in _ (by have := HLN.out; omega)]; omega
   obtain ⟨z, hzk⟩ : ∃ z, l[k]? = some z := ⟨_, List.getElem?_eq_getElem hlt⟩
   obtain ⟨gl, ol, hA, c0⟩ := nu_cell hl.out hzk
   subst hA
   have HZK := lhid hzk
   clear hzk
   go_wp2_with fail
   with_reducible refine (one_ac f n R TB p1 p2 z r _ h hz h1).mono ?_
   rintro e w1 ⟨b, rfl, hb, rfl⟩
   have HB := lhid hb
   clear hb
   cases b with
   | true =>
    go_wp2_with fail
    go_ret
    exact ⟨(k : Int), rfl, ⟨fun _ => ⟨z, List.mem_of_getElem? HZK.out, HB.out.1 (by first | rfl | trivial)⟩, fun _ => by omega⟩, rfl⟩
   | false =>
    go_wp2_with fail
    go_roundg (l.length - (k + 1))
    case measure => omega
    case rel => exact ⟨k + 1, rfl, by first | rfl | rw [hwk], by omega, rfl, lhid (fun y hy => by
     rw [take_snoc HZK.out] at hy
     rcases List.mem_append.1 hy with h9 | h9
     ·exact HNo.out y h9
     ·rw [List.mem_singleton] at h9
      subst h9
      intro h10
      have := HB.out.2 h10
      cases this)⟩
  ·have k3 : ¬ (k : Int) < l.length := by omega
   have HAll : Hid (∀ z ∈ l, ¬ BefP f n R z r) := lhid (by have h9 := HNo.out; rw [List.take_of_length_le (by omega)] at h9; exact h9)
   go_wp2_with fail
   go_ret
   exact ⟨-1, rfl, ⟨fun h9 => absurd h9 (by omega), fun ⟨z, h9, h10⟩ => absurd h10 (HAll.out z h9)⟩, rfl⟩
theorem has_ac (f : FuI) (n R TB p1 p2 : Nat) (l : List Int) (A : Option Addr) (cap : Nat) (r : Int) (w : World) (h : Hid (TabM f n R w TB)) (hz : Hid (R ≤ 20000 ∧ n ≤ 20000)) (h1 : Hid (w.cell? ⟨p1, 0, none⟩ = some (.pointer (some ⟨TB, 0, none⟩)) ∧ w.cell? ⟨p2, 0, none⟩ = some (.int .i64 r))) (hl : Hid (RdX Tru 1 NuE w (.slice A l.length cap) l)) :
  Calls Try.prog 34 #[.slice A l.length cap, .func (.func 39) #[] #[.pointer (some ⟨p1, 0, none⟩), .pointer (some ⟨p2, 0, none⟩)]] w fun e w' => ∃ b : Bool, e = .returned (.bool b) ∧ (b = true ↔ ∃ z ∈ l, BefP f n R z r) ∧ w' = w := by
 go_enter Try.func34, Try.ntmps34
 go_wp2_with fail
 with_reducible refine (idx_ac f n R TB p1 p2 l A cap r _ h hz h1 hl).mono ?_
 rintro e w1 ⟨i, rfl, hi, rfl⟩
 have HI := lhid hi
 clear hi
 go_wp2_with fail
 go_ret
 exact ⟨decide (0 ≤ i), rfl, by rw [decide_eq_true_eq]; exact HI.out, rfl⟩
end Go.Proofs.Ytoommeiiadobfaa
/- Is a register live behind a place: the program's After. -/
namespace Go.Proofs.Ytoommeiiadobfaa
open Go.RowKit Go
set_option linter.unusedVariables false
set_option linter.unusedSimpArgs false
def AftP (f : FuI) (n R : Nat) (i r : Int) : Prop := ∃ a : Nat, i = a ∧ a < n ∧ ∃ z ∈ nextL f (a : Nat), BefP f n R z r
def AftOut (f : FuI) (n R : Nat) (i r : Int) (w : World) (e : Ending) (w' : World) : Prop := ∃ b : Bool, e = .returned (.bool b) ∧ (b = true ↔ AftP f n R i r) ∧ Below w.heap.size w w'
set_option maxHeartbeats 16000000 in
set_option maxRecDepth 100000 in
theorem after_c (f : FuI) (n R TB : Nat) (i r : Int) (w : World) (h : Hid (TabM f n R w TB)) (hz : Hid (R ≤ 20000 ∧ n ≤ 20000)) : Calls Try.prog 12 #[.pointer (some ⟨TB, 0, none⟩), .int .i64 i, .int .i64 r] w fun e w' => AftOut f n R i r w e w' := by
 obtain ⟨z1, hz1⟩ : ∃ z1, (decide (0 ≤ i) && decide (i < n)) = z1 := ⟨_, rfl⟩
 have HZ1 := lhid hz1
 clear hz1
 go_enter Try.func12, Try.ntmps12
 go_upto_region 1 with fail
 generalize hW : World.alloc _ _ = w1
 obtain ⟨p1, hp1⟩ : ∃ p1, p1 = w.heap.size := ⟨_, rfl⟩
 try rw [← hp1]
 have hb : Below w.heap.size w w1 := by rw [← hW]; exact ((Below.refl _ _).alloc (Nat.le_refl _) _).alloc (by simp) _
 have H1 := lhid (h.out.below hb)
 have c1 : w1.cell? ⟨p1, 0, none⟩ = some (.pointer (some ⟨TB, 0, none⟩)) := by rw [← hW, hp1]; exact heap_cell (heap_keep (heap_alloc_new w _) ((Below.refl _ _).alloc (Nat.le_refl _) _)) rfl
 have c2 : w1.cell? ⟨p1 + 1, 0, none⟩ = some (.int .i64 r) := by rw [← hW, hp1]; exact heap_cell (heap_alloc_new' _ _ _ (by simp)) rfl
 have HB := lhid hb
 have HC12 := lhid (⟨c1, c2⟩ : _ ∧ _)
 clear hW hb hp1
 obtain ⟨NA, nc, u, L, hT, h2, _⟩ := H1.out
 have q0 := heap_cell (i := 0) hT rfl
 have HNX := lhid h2
 clear hT h2
 go_wp2_with fail
 with_reducible refine (isAt_c i n z1 _ HZ1).mono ?_
 rintro e w2 ⟨rfl, rfl⟩
 cases z1 with
 | false =>
  go_wp2_with fail
  go_ret
  refine ⟨false, rfl, ⟨fun h => (by cases h), ?_⟩, HB.out⟩
  rintro ⟨a, ha, han, _⟩
  have h1 := HZ1.out
  simp at h1
  omega
 | true =>
  obtain ⟨a, ha, han⟩ : ∃ a : Nat, i = a ∧ a < n := by
   have h1 := HZ1.out
   simp at h1
   exact ⟨i.toNat, by omega, by omega⟩
  subst ha
  have hin : (a : Int) < n := by omega
  obtain ⟨gl, ol, A, cap, hA, cl, hrl⟩ := ls_cell HNX.out (i := a) (l := nextL f (a : Nat)) (by simp [han])
  subst hA
  have hgl := cell_lt cl
  have HRL := lhid hrl
  clear hrl
  have hmf : ∀ (fn : Fn) (first cap : Array Value) (w : World), (Instr.makeFunc fn first cap).run Try.prog w = .ok (.func fn first cap) w := fun _ _ _ _ => rfl
  go_wp2_with fail
  with_reducible refine (has_af f n R TB p1 (p1 + 1) (nextL f (a : Nat)) A cap r _ H1 hz HC12 HRL).mono ?_
  rintro e w3 ⟨b, rfl, hb, rfl⟩
  have HBB := lhid hb
  clear hb
  go_wp2_with fail
  go_ret
  refine ⟨b, rfl, ?_, HB.out⟩
  rw [HBB.out]
  constructor
  ·intro h9
   exact ⟨a, rfl, han, h9⟩
  ·rintro ⟨a2, ha, _, h9⟩
   have e1 : a = a2 := by omega
   subst e1
   exact h9
end Go.Proofs.Ytoommeiiadobfaa
/- Is a register live across a place: the program's Across. -/
namespace Go.Proofs.Ytoommeiiadobfaa
open Go.RowKit Go
set_option linter.unusedVariables false
set_option linter.unusedSimpArgs false
def AcrP (f g : FuI) (n m R : Nat) (i r : Int) : Prop := ∃ a : Nat, i = a ∧ a < m ∧ ((defAt g a ≠ r ∧ AftP f n R i r) ∨ ∃ z ∈ caughtL g (a : Nat), BefP f n R z r)
def AcrOut (f g : FuI) (n m R : Nat) (i r : Int) (w : World) (e : Ending) (w' : World) : Prop := ∃ b : Bool, e = .returned (.bool b) ∧ (b = true ↔ AcrP f g n m R i r) ∧ Below w.heap.size w w'
set_option maxHeartbeats 16000000 in
set_option maxRecDepth 100000 in
theorem across_c {P : Nat → Prop} (f g : FuI) (n m R TB : Nat) (hm : g.code.length = m) (fa fb fd fe : Value) (i r : Int) (w : World) (h : Hid (TabM f n R w TB)) (hz : Hid (R ≤ 20000 ∧ n ≤ 20000)) (hg : Hid (FuV P w g fa fb fd fe)) (hrn : Hid (RwN g.rows)) (hrl : Hid (g.rows.length * 8 ≤ 140737488355328)) : Calls Try.prog 14 #[.pointer (some ⟨TB, 0, none⟩), fuL fa fb g.ret fd fe, .int .i64 i, .int .i64 r] w fun e w' => AcrOut f g n m R i r w e w' := by
  obtain ⟨FA, ac, hFA⟩ := hg.out.a.shape
  subst hFA
  obtain ⟨FB, bc, hFB⟩ := hg.out.b.shape
  subst hFB
  obtain ⟨D, dcap, hD⟩ := hg.out.d.shape
  subst hD
  obtain ⟨E, ecap, hE⟩ := hg.out.e.shape
  subst hE
  have HM := lhid hm
  have hf2 := hg.out
  rw [hm] at hf2 ⊢
  have HFU := lhid hf2
  clear hm hf2 hg
  obtain ⟨z1, hz1⟩ : ∃ z1, (decide (0 ≤ i) && decide (i < m)) = z1 := ⟨_, rfl⟩
  have HZ1 := lhid hz1
  clear hz1
  go_enter Try.func14, Try.ntmps14
  go_upto_region 1 with fail
  generalize hW : World.alloc _ _ = w1
  obtain ⟨p1, hp1⟩ : ∃ p1, p1 = w.heap.size := ⟨_, rfl⟩
  try rw [← hp1]
  have hb : Below w.heap.size w w1 := by rw [← hW]; exact (((Below.refl _ _).alloc (Nat.le_refl _) _).alloc (by simp) _).alloc (by simp; omega) _
  have c1 : w1.cell? ⟨p1, 0, none⟩ = some (.pointer (some ⟨TB, 0, none⟩)) := by rw [← hW, hp1]; exact heap_cell (heap_keep (heap_keep (heap_alloc_new w _) ((Below.refl _ _).alloc (Nat.le_refl _) _)) ((Below.refl _ _).alloc (Nat.le_refl _) _)) rfl
  have hF1 : FBox w1 (p1 + 1) (.slice FA g.regs.length ac) (.slice FB g.params.length bc) g.ret (.slice D m dcap) (.slice E g.rows.length ecap) := by rw [← hW, hp1]; exact heap_keep (heap_alloc_new' _ _ _ (by simp)) ((Below.refl _ _).alloc (Nat.le_refl _) _)
  have c2 : w1.cell? ⟨p1 + 2, 0, none⟩ = some (.int .i64 r) := by rw [← hW, hp1]; exact heap_cell (heap_alloc_new' _ _ _ (by simp)) rfl
  have HB1 := lhid hb
  have HF1 := lhid hF1
  have HC12 := lhid (⟨c1, c2⟩ : _ ∧ _)
  obtain ⟨p0, p1', p2, p3, p4⟩ := hF1.cells
  clear hW hb hp1 hF1
  go_wp2_with fail
  with_reducible refine (isAt_c i m z1 _ HZ1).mono ?_
  rintro e w2 ⟨rfl, rfl⟩
  cases z1 with
  | false =>
    go_wp2_with fail
    go_ret
    refine ⟨false, rfl, ⟨fun h => (by cases h), ?_⟩, HB1.out⟩
    rintro ⟨a, ha, han, _⟩
    have h1 := HZ1.out
    simp at h1
    omega
  | true =>
    obtain ⟨a, ha, ham⟩ : ∃ a : Nat, i = a ∧ a < m := by
      have h1 := HZ1.out
      simp at h1
      exact ⟨i.toNat, by omega, by omega⟩
    subst ha
    have hin : (a : Int) < m := by omega
    obtain ⟨x, hx⟩ : ∃ x, g.code[a]? = some x := ⟨_, List.getElem?_eq_getElem (by have := HM.out; omega)⟩
    obtain ⟨dz, hdz⟩ : ∃ dz, defI x = dz := ⟨_, rfl⟩
    have HDZ := lhid hdz
    have HDA : Hid (defAt g a = dz) := lhid (by unfold defAt; rw [hx]; exact hdz)
    go_upto_region 3 with fail
    clear p0 p1' p2 p3 p4 c1 c2 hdz
    obtain ⟨w3, hw3⟩ : ∃ w3, w3 = w2.drew := ⟨_, rfl⟩
    have hb3 : Below w2.heap.size w2 w3 := by rw [hw3]; exact Below.drew' (Below.refl _ _)
    have HB3 : Hid (Below w.heap.size w w3) := lhid (HB1.out.trans (hb3.mono HB1.out.size))
    have HB23 := lhid hb3
    obtain ⟨gi, o, v, hD, _, hva, c0, c1, c2, c3, c4, c5, c6, c7, c8⟩ := in_cells (HFU.out.below HB3.out).d hx
    subst hD
    obtain ⟨VA, vc, hv0⟩ := hva.shape
    subst hv0
    have HCELL : Hid (∀ w' : World, Below w3.heap.size w3 w' → w'.cell? ⟨p1 + 1, 0, none⟩ = some (.slice FA g.regs.length ac) ∧ w'.cell? ⟨p1 + 1, 1, none⟩ = some (.slice FB g.params.length bc) ∧ w'.cell? ⟨p1 + 1, 2, none⟩ = some (.int .i64 g.ret) ∧ w'.cell? ⟨p1 + 1, 3, none⟩ = some (.slice (some ⟨gi, o, none⟩) m dcap) ∧ w'.cell? ⟨p1 + 1, 4, none⟩ = some (.slice E g.rows.length ecap) ∧ w'.cell? ⟨p1, 0, none⟩ = some (.pointer (some ⟨TB, 0, none⟩)) ∧ w'.cell? ⟨p1 + 2, 0, none⟩ = some (.int .i64 r) ∧ w'.cell? ⟨gi, o + a * 9, none⟩ = some (.int .i64 x.op) ∧ w'.cell? ⟨gi, o + a * 9 + 1, none⟩ = some (.int .i64 x.dst) ∧ w'.cell? ⟨gi, o + a * 9 + 2, none⟩ = some (.int .i64 x.a) ∧ w'.cell? ⟨gi, o + a * 9 + 3, none⟩ = some (.int .i64 x.b) ∧ w'.cell? ⟨gi, o + a * 9 + 4, none⟩ = some (.int .i64 x.c) ∧ w'.cell? ⟨gi, o + a * 9 + 5, none⟩ = some (.int .i64 x.num) ∧ w'.cell? ⟨gi, o + a * 9 + 6, none⟩ = some (.int .i64 x.too) ∧ w'.cell? ⟨gi, o + a * 9 + 7, none⟩ = some (.string (tx x.ref)) ∧ w'.cell? ⟨gi, o + a * 9 + 8, none⟩ = some (.slice VA x.args.length vc)) := lhid (fun w' hw' => by
      have hf : w'.heap[p1 + 1]? = _ := heap_keep (heap_keep HF1.out HB23.out) hw'
      have kc : ∀ {p : Addr} {u : Value}, w3.cell? p = some u → w'.cell? p = some u := fun {p u} hq => (hw'.cell (p := p) (cell_lt hq)).trans hq
      have k2 : ∀ {p : Addr} {u : Value}, w2.cell? p = some u → w'.cell? p = some u := fun {p u} hq => kc ((HB23.out.cell (p := p) (cell_lt hq)).trans hq)
      exact ⟨heap_cell hf rfl, heap_cell hf rfl, heap_cell hf rfl, heap_cell hf rfl, heap_cell hf rfl, k2 HC12.out.1, k2 HC12.out.2, kc c0, kc c1, kc c2, kc c3, kc c4, kc c5, kc c6, kc c7, kc c8⟩)
    clear c0 c1 c2 c3 c4 c5 c6 c7 c8 hva hb3
    refine wp_region_held_drew (S := fun w' => Below w3.heap.size w3 w') (by kernel_rfl) (by rw [hw3]; exact Below.refl _ _) ?_
    intro hS0
    rw [← hw3] at hS0 ⊢
    clear hw3 hx
    refine wpAnyH_take (i := 0) (v := ?tv801) rfl (by kernel_rfl) (by kernel_rfl) (by kernel_rfl) (fun _ _ _ h => h) (Or.inl ⟨by rfl, ?ty801⟩) hS0 ?tr801
    case ty801 => (intro w' hw'; obtain ⟨p0, p1, p2, p3, p4, t1, r1, c0, c1, c2, c3, c4, c5, c6, c7, c8⟩ := HCELL.out w' hw'; go_simp; try with_reducible rfl)
    try simp only [List.getElem_toArray, List.getElem_cons_zero, List.getElem_cons_succ]
    try simp only [Act.put, List.setIfInBounds_toArray, List.set_cons_zero, List.set_cons_succ]
    refine wpAnyH_take (i := 1) (v := ?tv802) rfl (by kernel_rfl) (by kernel_rfl) (by kernel_rfl) (fun _ _ _ h => h) (Or.inl ⟨by rfl, ?ty802⟩) hS0 ?tr802
    case ty802 => (intro w' hw'; obtain ⟨p0, p1, p2, p3, p4, t1, r1, c0, c1, c2, c3, c4, c5, c6, c7, c8⟩ := HCELL.out w' hw'; go_simp; try with_reducible rfl)
    try simp only [List.getElem_toArray, List.getElem_cons_zero, List.getElem_cons_succ]
    try simp only [Act.put, List.setIfInBounds_toArray, List.set_cons_zero, List.set_cons_succ]
    refine wpAnyH_take (i := 2) (v := ?tv803) rfl (by kernel_rfl) (by kernel_rfl) (by kernel_rfl) (fun _ _ _ h => h) (Or.inl ⟨by rfl, ?ty803⟩) hS0 ?tr803
    case ty803 => (intro w' hw'; obtain ⟨p0, p1, p2, p3, p4, t1, r1, c0, c1, c2, c3, c4, c5, c6, c7, c8⟩ := HCELL.out w' hw'; go_simp; try with_reducible rfl)
    try simp only [List.getElem_toArray, List.getElem_cons_zero, List.getElem_cons_succ]
    try simp only [Act.put, List.setIfInBounds_toArray, List.set_cons_zero, List.set_cons_succ]
    refine wpAnyH_take (i := 3) (v := ?tv804) rfl (by kernel_rfl) (by kernel_rfl) (by kernel_rfl) (fun _ _ _ h => h) (Or.inl ⟨by rfl, ?ty804⟩) hS0 ?tr804
    case ty804 => (intro w' hw'; obtain ⟨p0, p1, p2, p3, p4, t1, r1, c0, c1, c2, c3, c4, c5, c6, c7, c8⟩ := HCELL.out w' hw'; go_simp; try with_reducible rfl)
    try simp only [List.getElem_toArray, List.getElem_cons_zero, List.getElem_cons_succ]
    try simp only [Act.put, List.setIfInBounds_toArray, List.set_cons_zero, List.set_cons_succ]
    refine wpAnyH_take (i := 4) (v := ?tv805) rfl (by kernel_rfl) (by kernel_rfl) (by kernel_rfl) (fun _ _ _ h => h) (Or.inl ⟨by rfl, ?ty805⟩) hS0 ?tr805
    case ty805 => (intro w' hw'; obtain ⟨p0, p1, p2, p3, p4, t1, r1, c0, c1, c2, c3, c4, c5, c6, c7, c8⟩ := HCELL.out w' hw'; go_simp; try with_reducible rfl)
    try simp only [List.getElem_toArray, List.getElem_cons_zero, List.getElem_cons_succ]
    try simp only [Act.put, List.setIfInBounds_toArray, List.set_cons_zero, List.set_cons_succ]
    refine wpAnyH_take (i := 6) (v := ?tv806) rfl (by kernel_rfl) (by kernel_rfl) (by kernel_rfl) (fun _ _ _ h => h) (Or.inl ⟨by rfl, ?ty806⟩) hS0 ?tr806
    case ty806 => (intro w' hw'; obtain ⟨p0, p1, p2, p3, p4, t1, r1, c0, c1, c2, c3, c4, c5, c6, c7, c8⟩ := HCELL.out w' hw'; go_simp; try with_reducible rfl)
    try simp only [List.getElem_toArray, List.getElem_cons_zero, List.getElem_cons_succ]
    try simp only [Act.put, List.setIfInBounds_toArray, List.set_cons_zero, List.set_cons_succ]
    refine wpAnyH_ready (rs := [5]) (by kernel_rfl) (by simp) ?_
    refine AllReadyH.cons rfl (fun K hK => ?_) AllReadyH.nil
    go_simp
    refine (def_w x (.slice VA x.args.length vc) w3 dz (lhid HDZ.out)).mono ?_
    rintro e w4 ⟨rfl, hb4⟩
    dsimp only
    refine hK.out _ _ hb4 (fun _ => ?_)
    clear hK K
    try simp only [Act.put, List.setIfInBounds_toArray, List.set_cons_zero, List.set_cons_succ]
    have HB4 := lhid hb4
    by_cases hq : dz = r
    · have hbq : (dz != r) = false := by rw [hq]; simp
      have HNO : Hid (¬ (defAt g a ≠ r ∧ AftP f n R (a : Int) r)) := lhid (fun h9 => h9.1 (HDA.out.trans hq))
      clear hq
      refine wpAnyH_quiet_tail 7 (by rfl) (by kernel_rfl) (by kernel_rfl) hb4 ?_
      simp only [List.drop_succ_cons, List.drop_zero]
      repeat (first
        | go_big_quiet_skip
        | (go_big_quiet_want
           refine quiet_of_run (v := ?_) (fun w' hw' => ?_) ?_
           rotate_left
           · (go_simp; try with_reducible rfl)
           go_big_quiet_on
           try simp only [Act.put, List.setIfInBounds_toArray, List.set_cons_zero, List.set_cons_succ]))
      refine wpQuiet_nil ?_
      intro wx hwx
      have HB35 := lhid hwx
      obtain ⟨w5, hw5⟩ : ∃ w5, w5 = wx := ⟨_, rfl⟩
      subst hw5
      clear hwx hb4 hS0
      have HB15 : Hid (Below w2.heap.size w2 w5) := lhid (HB23.out.trans (HB35.out.mono HB23.out.size))
      have HB5 : Hid (Below w.heap.size w w5) := lhid (HB1.out.trans (HB15.out.mono HB1.out.size))
      have HU5 := lhid (HFU.out.below HB5.out)
      have H5 := lhid (h.out.below HB5.out)
      have HF5 : Hid (FBox w5 (p1 + 1) (.slice FA g.regs.length ac) (.slice FB g.params.length bc) g.ret (.slice (some ⟨gi, o, none⟩) m dcap) (.slice E g.rows.length ecap)) := lhid (heap_keep HF1.out HB15.out)
      obtain ⟨p0, p1', p2, p3, p4⟩ := HF5.out.cells
      have HC5 : Hid (w5.cell? ⟨p1, 0, none⟩ = some (.pointer (some ⟨TB, 0, none⟩)) ∧ w5.cell? ⟨p1 + 2, 0, none⟩ = some (.int .i64 r)) := lhid ⟨(HB15.out.cell (cell_lt HC12.out.1)).trans HC12.out.1, (HB15.out.cell (cell_lt HC12.out.2)).trans HC12.out.2⟩
      have hmf : ∀ (fn : Fn) (first cap : Array Value) (w : World), (Instr.makeFunc fn first cap).run Try.prog w = .ok (.func fn first cap) w := fun _ _ _ _ => rfl
      go_wp2_with fail
      with_reducible refine (caught_any g _ _ _ _ (a : Int) w5 HU5 hrn hrl).mono ?_
      rintro e w6 ⟨v, rfl, hov, hb6⟩
      obtain ⟨KA, kc, rfl⟩ := own_shape hov
      have hkl : (caughtL g a).length ≤ 140737488355328 := by have h1 := caughtL_len g a; have h2 := hrl.out; omega
      have HRK : Hid (RdX Tru 1 NuE w6 (.slice KA (caughtL g a).length kc) (caughtL g a)) := lhid ((OwN.rd hov hkl).any fun _ _ => trivial)
      have H6 := lhid (H5.out.below hb6)
      have HC6 : Hid (w6.cell? ⟨p1, 0, none⟩ = some (.pointer (some ⟨TB, 0, none⟩)) ∧ w6.cell? ⟨p1 + 2, 0, none⟩ = some (.int .i64 r)) := lhid ⟨(hb6.cell (cell_lt HC5.out.1)).trans HC5.out.1, (hb6.cell (cell_lt HC5.out.2)).trans HC5.out.2⟩
      have HB6 : Hid (Below w.heap.size w w6) := lhid (HB5.out.trans (hb6.mono HB5.out.size))
      clear hov hb6 p0 p1' p2 p3 p4
      go_wp2_with fail
      with_reducible refine (has_ac f n R TB p1 (p1 + 2) (caughtL g a) KA kc r _ H6 hz HC6 HRK).mono ?_
      rintro e w7 ⟨b, rfl, hb, rfl⟩
      have HBB := lhid hb
      clear hb
      go_wp2_with fail
      go_ret
      refine ⟨b, rfl, ?_, HB6.out⟩
      rw [HBB.out]
      constructor
      · intro h9
        exact ⟨a, rfl, ham, .inr h9⟩
      · rintro ⟨a2, ha, _, h9⟩
        have e1 : a = a2 := by omega
        subst e1
        rcases h9 with h9 | h9
        · exact absurd h9 HNO.out
        · exact h9
    · have hbq : (dz != r) = true := by simpa using hq
      have HQ := lhid hq
      clear hq
      refine wpAnyH_take (i := 7) (v := ?tv807) rfl (by kernel_rfl) (by kernel_rfl) (by kernel_rfl) (fun _ _ _ h => h) (Or.inl ⟨by rfl, ?ty807⟩) hb4 ?tr807
      case ty807 => (intro w' hw'; obtain ⟨p0, p1, p2, p3, p4, t1, r1, c0, c1, c2, c3, c4, c5, c6, c7, c8⟩ := HCELL.out w' hw'; go_simp; try with_reducible rfl)
      try simp only [List.getElem_toArray, List.getElem_cons_zero, List.getElem_cons_succ]
      try simp only [Act.put, List.setIfInBounds_toArray, List.set_cons_zero, List.set_cons_succ]
      refine wpAnyH_take (i := 8) (v := ?tv808) rfl (by kernel_rfl) (by kernel_rfl) (by kernel_rfl) (fun _ _ _ h => h) (Or.inl ⟨by rfl, ?ty808⟩) hb4 ?tr808
      case ty808 => (intro w' hw'; obtain ⟨p0, p1, p2, p3, p4, t1, r1, c0, c1, c2, c3, c4, c5, c6, c7, c8⟩ := HCELL.out w' hw'; go_simp; try with_reducible rfl)
      try simp only [List.getElem_toArray, List.getElem_cons_zero, List.getElem_cons_succ]
      try simp only [Act.put, List.setIfInBounds_toArray, List.set_cons_zero, List.set_cons_succ]
      refine wpAnyH_take (i := 9) (v := ?tv809) rfl (by kernel_rfl) (by kernel_rfl) (by kernel_rfl) (fun _ _ _ h => h) (Or.inl ⟨by rfl, ?ty809⟩) hb4 ?tr809
      case ty809 => (intro w' hw'; obtain ⟨p0, p1, p2, p3, p4, t1, r1, c0, c1, c2, c3, c4, c5, c6, c7, c8⟩ := HCELL.out w' hw'; go_simp; try with_reducible rfl)
      try simp only [List.getElem_toArray, List.getElem_cons_zero, List.getElem_cons_succ]
      try simp only [Act.put, List.setIfInBounds_toArray, List.set_cons_zero, List.set_cons_succ]
      refine wpAnyH_take (i := 10) (v := ?tv810) rfl (by kernel_rfl) (by kernel_rfl) (by kernel_rfl) (fun _ _ _ h => h) (Or.inl ⟨by rfl, ?ty810⟩) hb4 ?tr810
      case ty810 => (intro w' hw'; obtain ⟨p0, p1, p2, p3, p4, t1, r1, c0, c1, c2, c3, c4, c5, c6, c7, c8⟩ := HCELL.out w' hw'; go_simp; try with_reducible rfl)
      try simp only [List.getElem_toArray, List.getElem_cons_zero, List.getElem_cons_succ]
      try simp only [Act.put, List.setIfInBounds_toArray, List.set_cons_zero, List.set_cons_succ]
      refine wpAnyH_take (i := 11) (v := ?tv811) rfl (by kernel_rfl) (by kernel_rfl) (by kernel_rfl) (fun _ _ _ h => h) (Or.inl ⟨by rfl, ?ty811⟩) hb4 ?tr811
      case ty811 => (intro w' hw'; obtain ⟨p0, p1, p2, p3, p4, t1, r1, c0, c1, c2, c3, c4, c5, c6, c7, c8⟩ := HCELL.out w' hw'; go_simp; try with_reducible rfl)
      try simp only [List.getElem_toArray, List.getElem_cons_zero, List.getElem_cons_succ]
      try simp only [Act.put, List.setIfInBounds_toArray, List.set_cons_zero, List.set_cons_succ]
      refine wpAnyH_ready (rs := [12]) (by kernel_rfl) (by simp) ?_
      refine AllReadyH.cons rfl (fun K hK => ?_) AllReadyH.nil
      rw [if_pos (by rfl)]
      go_simp
      refine (after_c f n R TB (a : Int) r w4 (lhid (h.out.below (HB3.out.trans (HB4.out.mono HB3.out.size)))) hz).mono ?_
      rintro e w5 ⟨b, rfl, hb, hb5⟩
      have HAF := lhid hb
      clear hb
      have hS5 : Below w3.heap.size w3 w5 := hb4.trans (hb5.mono hb4.size)
      dsimp only
      refine hK.out _ _ hS5 (fun _ => ?_)
      clear hK K
      try simp only [Act.put, List.setIfInBounds_toArray, List.set_cons_zero, List.set_cons_succ]
      refine wpAnyH_quiet_tail 13 (by rfl) (by kernel_rfl) (by kernel_rfl) hS5 ?_
      simp only [List.drop_succ_cons, List.drop_zero]
      repeat (first
        | go_big_quiet_skip
        | (go_big_quiet_want
           refine quiet_of_run (v := ?_) (fun w' hw' => ?_) ?_
           rotate_left
           · (go_simp; try with_reducible rfl)
           go_big_quiet_on
           try simp only [Act.put, List.setIfInBounds_toArray, List.set_cons_zero, List.set_cons_succ]))
      refine wpQuiet_nil ?_
      intro wx hwx
      clear hS5
      have HB35 := lhid hwx
      obtain ⟨w5, hw5⟩ : ∃ w5, w5 = wx := ⟨_, rfl⟩
      subst hw5
      clear hwx hb4 hS0 hb5
      have HB15 : Hid (Below w2.heap.size w2 w5) := lhid (HB23.out.trans (HB35.out.mono HB23.out.size))
      have HB5 : Hid (Below w.heap.size w w5) := lhid (HB1.out.trans (HB15.out.mono HB1.out.size))
      cases b with
      | true =>
        go_wp2_with fail
        go_ret
        exact ⟨true, rfl, ⟨fun _ => ⟨a, rfl, ham, .inl ⟨by rw [HDA.out]; exact HQ.out, HAF.out.1 (by first | rfl | trivial)⟩⟩, fun _ => rfl⟩, HB5.out⟩
      | false =>
        have HNO : Hid (¬ (defAt g a ≠ r ∧ AftP f n R (a : Int) r)) := lhid (fun h9 => by have h8 := HAF.out.2 h9.2; cases h8)
        have HU5 := lhid (HFU.out.below HB5.out)
        have H5 := lhid (h.out.below HB5.out)
        have HF5 : Hid (FBox w5 (p1 + 1) (.slice FA g.regs.length ac) (.slice FB g.params.length bc) g.ret (.slice (some ⟨gi, o, none⟩) m dcap) (.slice E g.rows.length ecap)) := lhid (heap_keep HF1.out HB15.out)
        obtain ⟨p0, p1', p2, p3, p4⟩ := HF5.out.cells
        have HC5 : Hid (w5.cell? ⟨p1, 0, none⟩ = some (.pointer (some ⟨TB, 0, none⟩)) ∧ w5.cell? ⟨p1 + 2, 0, none⟩ = some (.int .i64 r)) := lhid ⟨(HB15.out.cell (cell_lt HC12.out.1)).trans HC12.out.1, (HB15.out.cell (cell_lt HC12.out.2)).trans HC12.out.2⟩
        have hmf : ∀ (fn : Fn) (first cap : Array Value) (w : World), (Instr.makeFunc fn first cap).run Try.prog w = .ok (.func fn first cap) w := fun _ _ _ _ => rfl
        go_wp2_with fail
        with_reducible refine (caught_any g _ _ _ _ (a : Int) w5 HU5 hrn hrl).mono ?_
        rintro e w6 ⟨v, rfl, hov, hb6⟩
        obtain ⟨KA, kc, rfl⟩ := own_shape hov
        have hkl : (caughtL g a).length ≤ 140737488355328 := by have h1 := caughtL_len g a; have h2 := hrl.out; omega
        have HRK : Hid (RdX Tru 1 NuE w6 (.slice KA (caughtL g a).length kc) (caughtL g a)) := lhid ((OwN.rd hov hkl).any fun _ _ => trivial)
        have H6 := lhid (H5.out.below hb6)
        have HC6 : Hid (w6.cell? ⟨p1, 0, none⟩ = some (.pointer (some ⟨TB, 0, none⟩)) ∧ w6.cell? ⟨p1 + 2, 0, none⟩ = some (.int .i64 r)) := lhid ⟨(hb6.cell (cell_lt HC5.out.1)).trans HC5.out.1, (hb6.cell (cell_lt HC5.out.2)).trans HC5.out.2⟩
        have HB6 : Hid (Below w.heap.size w w6) := lhid (HB5.out.trans (hb6.mono HB5.out.size))
        clear hov hb6 p0 p1' p2 p3 p4
        go_wp2_with fail
        with_reducible refine (has_ac f n R TB p1 (p1 + 2) (caughtL g a) KA kc r _ H6 hz HC6 HRK).mono ?_
        rintro e w7 ⟨b, rfl, hb, rfl⟩
        have HBB := lhid hb
        clear hb
        go_wp2_with fail
        go_ret
        refine ⟨b, rfl, ?_, HB6.out⟩
        rw [HBB.out]
        constructor
        · intro h9
          exact ⟨a, rfl, ham, .inr h9⟩
        · rintro ⟨a2, ha, _, h9⟩
          have e1 : a = a2 := by omega
          subst e1
          rcases h9 with h9 | h9
          · exact absurd h9 HNO.out
          · exact h9
end Go.Proofs.Ytoommeiiadobfaa
/- No table: Before, After and Across tell of nothing. -/
namespace Go.Proofs.Ytoommeiiadobfaa
open Go.RowKit Go
set_option linter.unusedVariables false
set_option linter.unusedSimpArgs false
def NoT (f : FuI) (n R : Nat) (w : World) (TB : Nat) : Prop := True
theorem NoT.below {f : FuI} {n R TB : Nat} {w w' : World} (h : NoT f n R w TB) (hb : Below w.heap.size w w') : NoT f n R w' TB := trivial
def NoB (f : FuI) (n R : Nat) (z r : Int) : Prop := False
def NoA (f : FuI) (n R : Nat) (i r : Int) : Prop := False
theorem before_cN (f : FuI) (n R TB : Nat) (i r : Int) (w : World) (h : Hid (NoT f n R w TB)) (hz : Hid (R ≤ 20000 ∧ n ≤ 20000)) : Calls Try.prog 10 #[.pointer none, .int .i64 i, .int .i64 r] w fun e w' => ∃ b : Bool, e = .returned (.bool b) ∧ (b = true ↔ NoB f n R i r) ∧ w' = w := by
 refine (before_nil i r w).mono ?_
 rintro e w1 ⟨rfl, rfl⟩
 exact ⟨false, rfl, ⟨fun h => (by cases h), fun h => h.elim⟩, rfl⟩
theorem after_nil (i r : Int) (w : World) : Calls Try.prog 12 #[.pointer none, .int .i64 i, .int .i64 r] w fun e w' => e = .returned (.bool false) ∧ Below w.heap.size w w' := by
 go_enter Try.func12, Try.ntmps12
 go_upto_region 1 with fail
 generalize hW : World.alloc _ _ = w1
 obtain ⟨p1, hp1⟩ : ∃ p1, p1 = w.heap.size := ⟨_, rfl⟩
 try rw [← hp1]
 have hb : Below w.heap.size w w1 := by rw [← hW]; exact ((Below.refl _ _).alloc (Nat.le_refl _) _).alloc (by simp) _
 have c1 : w1.cell? ⟨p1, 0, none⟩ = some (.pointer none) := by rw [← hW, hp1]; exact heap_cell (heap_keep (heap_alloc_new w _) ((Below.refl _ _).alloc (Nat.le_refl _) _)) rfl
 have HB := lhid hb
 clear hW hb hp1
 go_wp2_with fail
 go_ret
 exact ⟨rfl, HB.out⟩
theorem after_cN (f : FuI) (n R TB : Nat) (i r : Int) (w : World) (h : Hid (NoT f n R w TB)) (hz : Hid (R ≤ 20000 ∧ n ≤ 20000)) : Calls Try.prog 12 #[.pointer none, .int .i64 i, .int .i64 r] w fun e w' => ∃ b : Bool, e = .returned (.bool b) ∧ (b = true ↔ NoA f n R i r) ∧ Below w.heap.size w w' := by
 refine (after_nil i r w).mono ?_
 rintro e w1 ⟨rfl, hb⟩
 exact ⟨false, rfl, ⟨fun h => (by cases h), fun h => h.elim⟩, hb⟩
def IdxOutN (f : FuI) (n R : Nat) (l : List Int) (r : Int) (w : World) (e : Ending) (w' : World) : Prop := ∃ i : Int, e = .returned (.int .i64 i) ∧ (0 ≤ i ↔ ∃ z ∈ l, NoB f n R z r) ∧ w' = w
set_option maxHeartbeats 16000000 in
set_option maxRecDepth 100000 in
theorem one_acN (f : FuI) (n R TB p1 p2 : Nat) (z r : Int) (w : World) (h : Hid (NoT f n R w TB)) (hz : Hid (R ≤ 20000 ∧ n ≤ 20000)) (h1 : Hid (w.cell? ⟨p1, 0, none⟩ = some (.pointer none) ∧ w.cell? ⟨p2, 0, none⟩ = some (.int .i64 r))) :
  Calls Try.prog 39 #[.int .i64 z, .pointer (some ⟨p1, 0, none⟩), .pointer (some ⟨p2, 0, none⟩)] w fun e w' => ∃ b : Bool, e = .returned (.bool b) ∧ (b = true ↔ NoB f n R z r) ∧ w' = w := by
 obtain ⟨c1, c2⟩ := h1.out
 go_enter Try.func39, Try.ntmps39
 go_wp2_with fail
 with_reducible refine (before_cN f n R TB z r _ h hz).mono ?_
 rintro e w1 ⟨b, rfl, hb, rfl⟩
 go_wp2_with fail
 go_ret
 exact ⟨b, rfl, hb, rfl⟩
set_option maxHeartbeats 16000000 in
set_option maxRecDepth 100000 in
theorem idx_acN (f : FuI) (n R TB p1 p2 : Nat) (l : List Int) (A : Option Addr) (cap : Nat) (r : Int) (w : World) (h : Hid (NoT f n R w TB)) (hz : Hid (R ≤ 20000 ∧ n ≤ 20000)) (h1 : Hid (w.cell? ⟨p1, 0, none⟩ = some (.pointer none) ∧ w.cell? ⟨p2, 0, none⟩ = some (.int .i64 r))) (hl : Hid (RdX Tru 1 NuE w (.slice A l.length cap) l)) :
  Calls Try.prog 63 #[.slice A l.length cap, .func (.func 39) #[] #[.pointer (some ⟨p1, 0, none⟩), .pointer (some ⟨p2, 0, none⟩)]] w fun e w' => IdxOutN f n R l r w e w' := by
 have HLN := lhid hl.out.len
 go_enter Try.func63, Try.ntmps63
 go_wp2_with fail
 go_loopg [8] l.length (fun g s wr => ∃ k : Nat, g = l.length - k ∧ s = .int .i64 k ∧ k ≤ l.length ∧ wr = w ∧ Hid (∀ z ∈ l.take k, ¬ NoB f n R z r))
 case atStart => exact ⟨0, rfl, rfl, Nat.zero_le _, rfl, lhid (fun z hz => by simp at hz)⟩
 case round =>
  obtain ⟨k, rfl, rfl, hk, rfl, HNo⟩ := hrel
  by_cases hlt : k < l.length
  ·have k3 : (k : Int) < l.length := Int.ofNat_lt.2 hlt
   have hwk : wrap64 ((k : Int) + 1) = ((k + 1 : Nat) : Int) := by rw [IntWalk.wrap64_in _ (by have := HLN.out; omega)]; omega
   obtain ⟨z, hzk⟩ : ∃ z, l[k]? = some z := ⟨_, List.getElem?_eq_getElem hlt⟩
   obtain ⟨gl, ol, hA, c0⟩ := nu_cell hl.out hzk
   subst hA
   have HZK := lhid hzk
   clear hzk
   go_wp2_with fail
   with_reducible refine (one_acN f n R TB p1 p2 z r _ h hz h1).mono ?_
   rintro e w1 ⟨b, rfl, hb, rfl⟩
   have HB := lhid hb
   clear hb
   cases b with
   | true =>
    go_wp2_with fail
    go_ret
    exact ⟨(k : Int), rfl, ⟨fun _ => ⟨z, List.mem_of_getElem? HZK.out, HB.out.1 (by first | rfl | trivial)⟩, fun _ => by omega⟩, rfl⟩
   | false =>
    go_wp2_with fail
    go_roundg (l.length - (k + 1))
    case measure => omega
    case rel => exact ⟨k + 1, rfl, by first | rfl | rw [hwk], by omega, rfl, lhid (fun y hy => by
     rw [take_snoc HZK.out] at hy
     rcases List.mem_append.1 hy with h9 | h9
     ·exact HNo.out y h9
     ·rw [List.mem_singleton] at h9
      subst h9
      intro h10
      have := HB.out.2 h10
      cases this)⟩
  ·have k3 : ¬ (k : Int) < l.length := by omega
   have HAll : Hid (∀ z ∈ l, ¬ NoB f n R z r) := lhid (by have h9 := HNo.out; rw [List.take_of_length_le (by omega)] at h9; exact h9)
   go_wp2_with fail
   go_ret
   exact ⟨-1, rfl, ⟨fun h9 => absurd h9 (by omega), fun ⟨z, h9, h10⟩ => absurd h10 (HAll.out z h9)⟩, rfl⟩
theorem has_acN (f : FuI) (n R TB p1 p2 : Nat) (l : List Int) (A : Option Addr) (cap : Nat) (r : Int) (w : World) (h : Hid (NoT f n R w TB)) (hz : Hid (R ≤ 20000 ∧ n ≤ 20000)) (h1 : Hid (w.cell? ⟨p1, 0, none⟩ = some (.pointer none) ∧ w.cell? ⟨p2, 0, none⟩ = some (.int .i64 r))) (hl : Hid (RdX Tru 1 NuE w (.slice A l.length cap) l)) :
  Calls Try.prog 34 #[.slice A l.length cap, .func (.func 39) #[] #[.pointer (some ⟨p1, 0, none⟩), .pointer (some ⟨p2, 0, none⟩)]] w fun e w' => ∃ b : Bool, e = .returned (.bool b) ∧ (b = true ↔ ∃ z ∈ l, NoB f n R z r) ∧ w' = w := by
 go_enter Try.func34, Try.ntmps34
 go_wp2_with fail
 with_reducible refine (idx_acN f n R TB p1 p2 l A cap r _ h hz h1 hl).mono ?_
 rintro e w1 ⟨i, rfl, hi, rfl⟩
 have HI := lhid hi
 clear hi
 go_wp2_with fail
 go_ret
 exact ⟨decide (0 ≤ i), rfl, by rw [decide_eq_true_eq]; exact HI.out, rfl⟩
def AcN (f g : FuI) (n m R : Nat) (i r : Int) : Prop := ∃ a : Nat, i = a ∧ a < m ∧ ((defAt g a ≠ r ∧ NoA f n R i r) ∨ ∃ z ∈ caughtL g (a : Nat), NoB f n R z r)
def AcrOutN (f g : FuI) (n m R : Nat) (i r : Int) (w : World) (e : Ending) (w' : World) : Prop := ∃ b : Bool, e = .returned (.bool b) ∧ (b = true ↔ AcN f g n m R i r) ∧ Below w.heap.size w w'
set_option maxHeartbeats 16000000 in
set_option maxRecDepth 100000 in
theorem across_cN {P : Nat → Prop} (f g : FuI) (n m R TB : Nat) (hm : g.code.length = m) (fa fb fd fe : Value) (i r : Int) (w : World) (h : Hid (NoT f n R w TB)) (hz : Hid (R ≤ 20000 ∧ n ≤ 20000)) (hg : Hid (FuV P w g fa fb fd fe)) (hrn : Hid (RwN g.rows)) (hrl : Hid (g.rows.length * 8 ≤ 140737488355328)) : Calls Try.prog 14 #[.pointer none, fuL fa fb g.ret fd fe, .int .i64 i, .int .i64 r] w fun e w' => AcrOutN f g n m R i r w e w' := by
  obtain ⟨FA, ac, hFA⟩ := hg.out.a.shape
  subst hFA
  obtain ⟨FB, bc, hFB⟩ := hg.out.b.shape
  subst hFB
  obtain ⟨D, dcap, hD⟩ := hg.out.d.shape
  subst hD
  obtain ⟨E, ecap, hE⟩ := hg.out.e.shape
  subst hE
  have HM := lhid hm
  have hf2 := hg.out
  rw [hm] at hf2 ⊢
  have HFU := lhid hf2
  clear hm hf2 hg
  obtain ⟨z1, hz1⟩ : ∃ z1, (decide (0 ≤ i) && decide (i < m)) = z1 := ⟨_, rfl⟩
  have HZ1 := lhid hz1
  clear hz1
  go_enter Try.func14, Try.ntmps14
  go_upto_region 1 with fail
  generalize hW : World.alloc _ _ = w1
  obtain ⟨p1, hp1⟩ : ∃ p1, p1 = w.heap.size := ⟨_, rfl⟩
  try rw [← hp1]
  have hb : Below w.heap.size w w1 := by rw [← hW]; exact (((Below.refl _ _).alloc (Nat.le_refl _) _).alloc (by simp) _).alloc (by simp; omega) _
  have c1 : w1.cell? ⟨p1, 0, none⟩ = some (.pointer none) := by rw [← hW, hp1]; exact heap_cell (heap_keep (heap_keep (heap_alloc_new w _) ((Below.refl _ _).alloc (Nat.le_refl _) _)) ((Below.refl _ _).alloc (Nat.le_refl _) _)) rfl
  have hF1 : FBox w1 (p1 + 1) (.slice FA g.regs.length ac) (.slice FB g.params.length bc) g.ret (.slice D m dcap) (.slice E g.rows.length ecap) := by rw [← hW, hp1]; exact heap_keep (heap_alloc_new' _ _ _ (by simp)) ((Below.refl _ _).alloc (Nat.le_refl _) _)
  have c2 : w1.cell? ⟨p1 + 2, 0, none⟩ = some (.int .i64 r) := by rw [← hW, hp1]; exact heap_cell (heap_alloc_new' _ _ _ (by simp)) rfl
  have HB1 := lhid hb
  have HF1 := lhid hF1
  have HC12 := lhid (⟨c1, c2⟩ : _ ∧ _)
  obtain ⟨p0, p1', p2, p3, p4⟩ := hF1.cells
  clear hW hb hp1 hF1
  go_wp2_with fail
  with_reducible refine (isAt_c i m z1 _ HZ1).mono ?_
  rintro e w2 ⟨rfl, rfl⟩
  cases z1 with
  | false =>
    go_wp2_with fail
    go_ret
    refine ⟨false, rfl, ⟨fun h => (by cases h), ?_⟩, HB1.out⟩
    rintro ⟨a, ha, han, _⟩
    have h1 := HZ1.out
    simp at h1
    omega
  | true =>
    obtain ⟨a, ha, ham⟩ : ∃ a : Nat, i = a ∧ a < m := by
      have h1 := HZ1.out
      simp at h1
      exact ⟨i.toNat, by omega, by omega⟩
    subst ha
    have hin : (a : Int) < m := by omega
    obtain ⟨x, hx⟩ : ∃ x, g.code[a]? = some x := ⟨_, List.getElem?_eq_getElem (by have := HM.out; omega)⟩
    obtain ⟨dz, hdz⟩ : ∃ dz, defI x = dz := ⟨_, rfl⟩
    have HDZ := lhid hdz
    have HDA : Hid (defAt g a = dz) := lhid (by unfold defAt; rw [hx]; exact hdz)
    go_upto_region 3 with fail
    clear p0 p1' p2 p3 p4 c1 c2 hdz
    obtain ⟨w3, hw3⟩ : ∃ w3, w3 = w2.drew := ⟨_, rfl⟩
    have hb3 : Below w2.heap.size w2 w3 := by rw [hw3]; exact Below.drew' (Below.refl _ _)
    have HB3 : Hid (Below w.heap.size w w3) := lhid (HB1.out.trans (hb3.mono HB1.out.size))
    have HB23 := lhid hb3
    obtain ⟨gi, o, v, hD, _, hva, c0, c1, c2, c3, c4, c5, c6, c7, c8⟩ := in_cells (HFU.out.below HB3.out).d hx
    subst hD
    obtain ⟨VA, vc, hv0⟩ := hva.shape
    subst hv0
    have HCELL : Hid (∀ w' : World, Below w3.heap.size w3 w' → w'.cell? ⟨p1 + 1, 0, none⟩ = some (.slice FA g.regs.length ac) ∧ w'.cell? ⟨p1 + 1, 1, none⟩ = some (.slice FB g.params.length bc) ∧ w'.cell? ⟨p1 + 1, 2, none⟩ = some (.int .i64 g.ret) ∧ w'.cell? ⟨p1 + 1, 3, none⟩ = some (.slice (some ⟨gi, o, none⟩) m dcap) ∧ w'.cell? ⟨p1 + 1, 4, none⟩ = some (.slice E g.rows.length ecap) ∧ w'.cell? ⟨p1, 0, none⟩ = some (.pointer none) ∧ w'.cell? ⟨p1 + 2, 0, none⟩ = some (.int .i64 r) ∧ w'.cell? ⟨gi, o + a * 9, none⟩ = some (.int .i64 x.op) ∧ w'.cell? ⟨gi, o + a * 9 + 1, none⟩ = some (.int .i64 x.dst) ∧ w'.cell? ⟨gi, o + a * 9 + 2, none⟩ = some (.int .i64 x.a) ∧ w'.cell? ⟨gi, o + a * 9 + 3, none⟩ = some (.int .i64 x.b) ∧ w'.cell? ⟨gi, o + a * 9 + 4, none⟩ = some (.int .i64 x.c) ∧ w'.cell? ⟨gi, o + a * 9 + 5, none⟩ = some (.int .i64 x.num) ∧ w'.cell? ⟨gi, o + a * 9 + 6, none⟩ = some (.int .i64 x.too) ∧ w'.cell? ⟨gi, o + a * 9 + 7, none⟩ = some (.string (tx x.ref)) ∧ w'.cell? ⟨gi, o + a * 9 + 8, none⟩ = some (.slice VA x.args.length vc)) := lhid (fun w' hw' => by
      have hf : w'.heap[p1 + 1]? = _ := heap_keep (heap_keep HF1.out HB23.out) hw'
      have kc : ∀ {p : Addr} {u : Value}, w3.cell? p = some u → w'.cell? p = some u := fun {p u} hq => (hw'.cell (p := p) (cell_lt hq)).trans hq
      have k2 : ∀ {p : Addr} {u : Value}, w2.cell? p = some u → w'.cell? p = some u := fun {p u} hq => kc ((HB23.out.cell (p := p) (cell_lt hq)).trans hq)
      exact ⟨heap_cell hf rfl, heap_cell hf rfl, heap_cell hf rfl, heap_cell hf rfl, heap_cell hf rfl, k2 HC12.out.1, k2 HC12.out.2, kc c0, kc c1, kc c2, kc c3, kc c4, kc c5, kc c6, kc c7, kc c8⟩)
    clear c0 c1 c2 c3 c4 c5 c6 c7 c8 hva hb3
    refine wp_region_held_drew (S := fun w' => Below w3.heap.size w3 w') (by kernel_rfl) (by rw [hw3]; exact Below.refl _ _) ?_
    intro hS0
    rw [← hw3] at hS0 ⊢
    clear hw3 hx
    refine wpAnyH_take (i := 0) (v := ?tv801) rfl (by kernel_rfl) (by kernel_rfl) (by kernel_rfl) (fun _ _ _ h => h) (Or.inl ⟨by rfl, ?ty801⟩) hS0 ?tr801
    case ty801 => (intro w' hw'; obtain ⟨p0, p1, p2, p3, p4, t1, r1, c0, c1, c2, c3, c4, c5, c6, c7, c8⟩ := HCELL.out w' hw'; go_simp; try with_reducible rfl)
    try simp only [List.getElem_toArray, List.getElem_cons_zero, List.getElem_cons_succ]
    try simp only [Act.put, List.setIfInBounds_toArray, List.set_cons_zero, List.set_cons_succ]
    refine wpAnyH_take (i := 1) (v := ?tv802) rfl (by kernel_rfl) (by kernel_rfl) (by kernel_rfl) (fun _ _ _ h => h) (Or.inl ⟨by rfl, ?ty802⟩) hS0 ?tr802
    case ty802 => (intro w' hw'; obtain ⟨p0, p1, p2, p3, p4, t1, r1, c0, c1, c2, c3, c4, c5, c6, c7, c8⟩ := HCELL.out w' hw'; go_simp; try with_reducible rfl)
    try simp only [List.getElem_toArray, List.getElem_cons_zero, List.getElem_cons_succ]
    try simp only [Act.put, List.setIfInBounds_toArray, List.set_cons_zero, List.set_cons_succ]
    refine wpAnyH_take (i := 2) (v := ?tv803) rfl (by kernel_rfl) (by kernel_rfl) (by kernel_rfl) (fun _ _ _ h => h) (Or.inl ⟨by rfl, ?ty803⟩) hS0 ?tr803
    case ty803 => (intro w' hw'; obtain ⟨p0, p1, p2, p3, p4, t1, r1, c0, c1, c2, c3, c4, c5, c6, c7, c8⟩ := HCELL.out w' hw'; go_simp; try with_reducible rfl)
    try simp only [List.getElem_toArray, List.getElem_cons_zero, List.getElem_cons_succ]
    try simp only [Act.put, List.setIfInBounds_toArray, List.set_cons_zero, List.set_cons_succ]
    refine wpAnyH_take (i := 3) (v := ?tv804) rfl (by kernel_rfl) (by kernel_rfl) (by kernel_rfl) (fun _ _ _ h => h) (Or.inl ⟨by rfl, ?ty804⟩) hS0 ?tr804
    case ty804 => (intro w' hw'; obtain ⟨p0, p1, p2, p3, p4, t1, r1, c0, c1, c2, c3, c4, c5, c6, c7, c8⟩ := HCELL.out w' hw'; go_simp; try with_reducible rfl)
    try simp only [List.getElem_toArray, List.getElem_cons_zero, List.getElem_cons_succ]
    try simp only [Act.put, List.setIfInBounds_toArray, List.set_cons_zero, List.set_cons_succ]
    refine wpAnyH_take (i := 4) (v := ?tv805) rfl (by kernel_rfl) (by kernel_rfl) (by kernel_rfl) (fun _ _ _ h => h) (Or.inl ⟨by rfl, ?ty805⟩) hS0 ?tr805
    case ty805 => (intro w' hw'; obtain ⟨p0, p1, p2, p3, p4, t1, r1, c0, c1, c2, c3, c4, c5, c6, c7, c8⟩ := HCELL.out w' hw'; go_simp; try with_reducible rfl)
    try simp only [List.getElem_toArray, List.getElem_cons_zero, List.getElem_cons_succ]
    try simp only [Act.put, List.setIfInBounds_toArray, List.set_cons_zero, List.set_cons_succ]
    refine wpAnyH_take (i := 6) (v := ?tv806) rfl (by kernel_rfl) (by kernel_rfl) (by kernel_rfl) (fun _ _ _ h => h) (Or.inl ⟨by rfl, ?ty806⟩) hS0 ?tr806
    case ty806 => (intro w' hw'; obtain ⟨p0, p1, p2, p3, p4, t1, r1, c0, c1, c2, c3, c4, c5, c6, c7, c8⟩ := HCELL.out w' hw'; go_simp; try with_reducible rfl)
    try simp only [List.getElem_toArray, List.getElem_cons_zero, List.getElem_cons_succ]
    try simp only [Act.put, List.setIfInBounds_toArray, List.set_cons_zero, List.set_cons_succ]
    refine wpAnyH_ready (rs := [5]) (by kernel_rfl) (by simp) ?_
    refine AllReadyH.cons rfl (fun K hK => ?_) AllReadyH.nil
    go_simp
    refine (def_w x (.slice VA x.args.length vc) w3 dz (lhid HDZ.out)).mono ?_
    rintro e w4 ⟨rfl, hb4⟩
    dsimp only
    refine hK.out _ _ hb4 (fun _ => ?_)
    clear hK K
    try simp only [Act.put, List.setIfInBounds_toArray, List.set_cons_zero, List.set_cons_succ]
    have HB4 := lhid hb4
    by_cases hq : dz = r
    · have hbq : (dz != r) = false := by rw [hq]; simp
      have HNO : Hid (¬ (defAt g a ≠ r ∧ NoA f n R (a : Int) r)) := lhid (fun h9 => h9.1 (HDA.out.trans hq))
      clear hq
      refine wpAnyH_quiet_tail 7 (by rfl) (by kernel_rfl) (by kernel_rfl) hb4 ?_
      simp only [List.drop_succ_cons, List.drop_zero]
      repeat (first
        | go_big_quiet_skip
        | (go_big_quiet_want
           refine quiet_of_run (v := ?_) (fun w' hw' => ?_) ?_
           rotate_left
           · (go_simp; try with_reducible rfl)
           go_big_quiet_on
           try simp only [Act.put, List.setIfInBounds_toArray, List.set_cons_zero, List.set_cons_succ]))
      refine wpQuiet_nil ?_
      intro wx hwx
      have HB35 := lhid hwx
      obtain ⟨w5, hw5⟩ : ∃ w5, w5 = wx := ⟨_, rfl⟩
      subst hw5
      clear hwx hb4 hS0
      have HB15 : Hid (Below w2.heap.size w2 w5) := lhid (HB23.out.trans (HB35.out.mono HB23.out.size))
      have HB5 : Hid (Below w.heap.size w w5) := lhid (HB1.out.trans (HB15.out.mono HB1.out.size))
      have HU5 := lhid (HFU.out.below HB5.out)
      have H5 := lhid (h.out.below HB5.out)
      have HF5 : Hid (FBox w5 (p1 + 1) (.slice FA g.regs.length ac) (.slice FB g.params.length bc) g.ret (.slice (some ⟨gi, o, none⟩) m dcap) (.slice E g.rows.length ecap)) := lhid (heap_keep HF1.out HB15.out)
      obtain ⟨p0, p1', p2, p3, p4⟩ := HF5.out.cells
      have HC5 : Hid (w5.cell? ⟨p1, 0, none⟩ = some (.pointer none) ∧ w5.cell? ⟨p1 + 2, 0, none⟩ = some (.int .i64 r)) := lhid ⟨(HB15.out.cell (cell_lt HC12.out.1)).trans HC12.out.1, (HB15.out.cell (cell_lt HC12.out.2)).trans HC12.out.2⟩
      have hmf : ∀ (fn : Fn) (first cap : Array Value) (w : World), (Instr.makeFunc fn first cap).run Try.prog w = .ok (.func fn first cap) w := fun _ _ _ _ => rfl
      go_wp2_with fail
      with_reducible refine (caught_any g _ _ _ _ (a : Int) w5 HU5 hrn hrl).mono ?_
      rintro e w6 ⟨v, rfl, hov, hb6⟩
      obtain ⟨KA, kc, rfl⟩ := own_shape hov
      have hkl : (caughtL g a).length ≤ 140737488355328 := by have h1 := caughtL_len g a; have h2 := hrl.out; omega
      have HRK : Hid (RdX Tru 1 NuE w6 (.slice KA (caughtL g a).length kc) (caughtL g a)) := lhid ((OwN.rd hov hkl).any fun _ _ => trivial)
      have H6 := lhid (H5.out.below hb6)
      have HC6 : Hid (w6.cell? ⟨p1, 0, none⟩ = some (.pointer none) ∧ w6.cell? ⟨p1 + 2, 0, none⟩ = some (.int .i64 r)) := lhid ⟨(hb6.cell (cell_lt HC5.out.1)).trans HC5.out.1, (hb6.cell (cell_lt HC5.out.2)).trans HC5.out.2⟩
      have HB6 : Hid (Below w.heap.size w w6) := lhid (HB5.out.trans (hb6.mono HB5.out.size))
      clear hov hb6 p0 p1' p2 p3 p4
      go_wp2_with fail
      with_reducible refine (has_acN f n R TB p1 (p1 + 2) (caughtL g a) KA kc r _ H6 hz HC6 HRK).mono ?_
      rintro e w7 ⟨b, rfl, hb, rfl⟩
      have HBB := lhid hb
      clear hb
      go_wp2_with fail
      go_ret
      refine ⟨b, rfl, ?_, HB6.out⟩
      rw [HBB.out]
      constructor
      · intro h9
        exact ⟨a, rfl, ham, .inr h9⟩
      · rintro ⟨a2, ha, _, h9⟩
        have e1 : a = a2 := by omega
        subst e1
        rcases h9 with h9 | h9
        · exact absurd h9 HNO.out
        · exact h9
    · have hbq : (dz != r) = true := by simpa using hq
      have HQ := lhid hq
      clear hq
      refine wpAnyH_take (i := 7) (v := ?tv807) rfl (by kernel_rfl) (by kernel_rfl) (by kernel_rfl) (fun _ _ _ h => h) (Or.inl ⟨by rfl, ?ty807⟩) hb4 ?tr807
      case ty807 => (intro w' hw'; obtain ⟨p0, p1, p2, p3, p4, t1, r1, c0, c1, c2, c3, c4, c5, c6, c7, c8⟩ := HCELL.out w' hw'; go_simp; try with_reducible rfl)
      try simp only [List.getElem_toArray, List.getElem_cons_zero, List.getElem_cons_succ]
      try simp only [Act.put, List.setIfInBounds_toArray, List.set_cons_zero, List.set_cons_succ]
      refine wpAnyH_take (i := 8) (v := ?tv808) rfl (by kernel_rfl) (by kernel_rfl) (by kernel_rfl) (fun _ _ _ h => h) (Or.inl ⟨by rfl, ?ty808⟩) hb4 ?tr808
      case ty808 => (intro w' hw'; obtain ⟨p0, p1, p2, p3, p4, t1, r1, c0, c1, c2, c3, c4, c5, c6, c7, c8⟩ := HCELL.out w' hw'; go_simp; try with_reducible rfl)
      try simp only [List.getElem_toArray, List.getElem_cons_zero, List.getElem_cons_succ]
      try simp only [Act.put, List.setIfInBounds_toArray, List.set_cons_zero, List.set_cons_succ]
      refine wpAnyH_take (i := 9) (v := ?tv809) rfl (by kernel_rfl) (by kernel_rfl) (by kernel_rfl) (fun _ _ _ h => h) (Or.inl ⟨by rfl, ?ty809⟩) hb4 ?tr809
      case ty809 => (intro w' hw'; obtain ⟨p0, p1, p2, p3, p4, t1, r1, c0, c1, c2, c3, c4, c5, c6, c7, c8⟩ := HCELL.out w' hw'; go_simp; try with_reducible rfl)
      try simp only [List.getElem_toArray, List.getElem_cons_zero, List.getElem_cons_succ]
      try simp only [Act.put, List.setIfInBounds_toArray, List.set_cons_zero, List.set_cons_succ]
      refine wpAnyH_take (i := 10) (v := ?tv810) rfl (by kernel_rfl) (by kernel_rfl) (by kernel_rfl) (fun _ _ _ h => h) (Or.inl ⟨by rfl, ?ty810⟩) hb4 ?tr810
      case ty810 => (intro w' hw'; obtain ⟨p0, p1, p2, p3, p4, t1, r1, c0, c1, c2, c3, c4, c5, c6, c7, c8⟩ := HCELL.out w' hw'; go_simp; try with_reducible rfl)
      try simp only [List.getElem_toArray, List.getElem_cons_zero, List.getElem_cons_succ]
      try simp only [Act.put, List.setIfInBounds_toArray, List.set_cons_zero, List.set_cons_succ]
      refine wpAnyH_take (i := 11) (v := ?tv811) rfl (by kernel_rfl) (by kernel_rfl) (by kernel_rfl) (fun _ _ _ h => h) (Or.inl ⟨by rfl, ?ty811⟩) hb4 ?tr811
      case ty811 => (intro w' hw'; obtain ⟨p0, p1, p2, p3, p4, t1, r1, c0, c1, c2, c3, c4, c5, c6, c7, c8⟩ := HCELL.out w' hw'; go_simp; try with_reducible rfl)
      try simp only [List.getElem_toArray, List.getElem_cons_zero, List.getElem_cons_succ]
      try simp only [Act.put, List.setIfInBounds_toArray, List.set_cons_zero, List.set_cons_succ]
      refine wpAnyH_ready (rs := [12]) (by kernel_rfl) (by simp) ?_
      refine AllReadyH.cons rfl (fun K hK => ?_) AllReadyH.nil
      rw [if_pos (by rfl)]
      go_simp
      refine (after_cN f n R TB (a : Int) r w4 (lhid (h.out.below (HB3.out.trans (HB4.out.mono HB3.out.size)))) hz).mono ?_
      rintro e w5 ⟨b, rfl, hb, hb5⟩
      have HAF := lhid hb
      clear hb
      have hS5 : Below w3.heap.size w3 w5 := hb4.trans (hb5.mono hb4.size)
      dsimp only
      refine hK.out _ _ hS5 (fun _ => ?_)
      clear hK K
      try simp only [Act.put, List.setIfInBounds_toArray, List.set_cons_zero, List.set_cons_succ]
      refine wpAnyH_quiet_tail 13 (by rfl) (by kernel_rfl) (by kernel_rfl) hS5 ?_
      simp only [List.drop_succ_cons, List.drop_zero]
      repeat (first
        | go_big_quiet_skip
        | (go_big_quiet_want
           refine quiet_of_run (v := ?_) (fun w' hw' => ?_) ?_
           rotate_left
           · (go_simp; try with_reducible rfl)
           go_big_quiet_on
           try simp only [Act.put, List.setIfInBounds_toArray, List.set_cons_zero, List.set_cons_succ]))
      refine wpQuiet_nil ?_
      intro wx hwx
      clear hS5
      have HB35 := lhid hwx
      obtain ⟨w5, hw5⟩ : ∃ w5, w5 = wx := ⟨_, rfl⟩
      subst hw5
      clear hwx hb4 hS0 hb5
      have HB15 : Hid (Below w2.heap.size w2 w5) := lhid (HB23.out.trans (HB35.out.mono HB23.out.size))
      have HB5 : Hid (Below w.heap.size w w5) := lhid (HB1.out.trans (HB15.out.mono HB1.out.size))
      cases b with
      | true =>
        go_wp2_with fail
        go_ret
        exact ⟨true, rfl, ⟨fun _ => ⟨a, rfl, ham, .inl ⟨by rw [HDA.out]; exact HQ.out, HAF.out.1 (by first | rfl | trivial)⟩⟩, fun _ => rfl⟩, HB5.out⟩
      | false =>
        have HNO : Hid (¬ (defAt g a ≠ r ∧ NoA f n R (a : Int) r)) := lhid (fun h9 => by have h8 := HAF.out.2 h9.2; cases h8)
        have HU5 := lhid (HFU.out.below HB5.out)
        have H5 := lhid (h.out.below HB5.out)
        have HF5 : Hid (FBox w5 (p1 + 1) (.slice FA g.regs.length ac) (.slice FB g.params.length bc) g.ret (.slice (some ⟨gi, o, none⟩) m dcap) (.slice E g.rows.length ecap)) := lhid (heap_keep HF1.out HB15.out)
        obtain ⟨p0, p1', p2, p3, p4⟩ := HF5.out.cells
        have HC5 : Hid (w5.cell? ⟨p1, 0, none⟩ = some (.pointer none) ∧ w5.cell? ⟨p1 + 2, 0, none⟩ = some (.int .i64 r)) := lhid ⟨(HB15.out.cell (cell_lt HC12.out.1)).trans HC12.out.1, (HB15.out.cell (cell_lt HC12.out.2)).trans HC12.out.2⟩
        have hmf : ∀ (fn : Fn) (first cap : Array Value) (w : World), (Instr.makeFunc fn first cap).run Try.prog w = .ok (.func fn first cap) w := fun _ _ _ _ => rfl
        go_wp2_with fail
        with_reducible refine (caught_any g _ _ _ _ (a : Int) w5 HU5 hrn hrl).mono ?_
        rintro e w6 ⟨v, rfl, hov, hb6⟩
        obtain ⟨KA, kc, rfl⟩ := own_shape hov
        have hkl : (caughtL g a).length ≤ 140737488355328 := by have h1 := caughtL_len g a; have h2 := hrl.out; omega
        have HRK : Hid (RdX Tru 1 NuE w6 (.slice KA (caughtL g a).length kc) (caughtL g a)) := lhid ((OwN.rd hov hkl).any fun _ _ => trivial)
        have H6 := lhid (H5.out.below hb6)
        have HC6 : Hid (w6.cell? ⟨p1, 0, none⟩ = some (.pointer none) ∧ w6.cell? ⟨p1 + 2, 0, none⟩ = some (.int .i64 r)) := lhid ⟨(hb6.cell (cell_lt HC5.out.1)).trans HC5.out.1, (hb6.cell (cell_lt HC5.out.2)).trans HC5.out.2⟩
        have HB6 : Hid (Below w.heap.size w w6) := lhid (HB5.out.trans (hb6.mono HB5.out.size))
        clear hov hb6 p0 p1' p2 p3 p4
        go_wp2_with fail
        with_reducible refine (has_acN f n R TB p1 (p1 + 2) (caughtL g a) KA kc r _ H6 hz HC6 HRK).mono ?_
        rintro e w7 ⟨b, rfl, hb, rfl⟩
        have HBB := lhid hb
        clear hb
        go_wp2_with fail
        go_ret
        refine ⟨b, rfl, ?_, HB6.out⟩
        rw [HBB.out]
        constructor
        · intro h9
          exact ⟨a, rfl, ham, .inr h9⟩
        · rintro ⟨a2, ha, _, h9⟩
          have e1 : a = a2 := by omega
          subst e1
          rcases h9 with h9 | h9
          · exact absurd h9 HNO.out
          · exact h9
theorem across_nil (f : FuI) (n : Nat) (hn : f.code.length = n) (fa fb fd fe : Value) (i r : Int) (w : World) (hg : Hid (FuV Tru w f fa fb fd fe)) (hrn : Hid (RwN f.rows)) (hrl : Hid (f.rows.length * 8 ≤ 140737488355328)) : Calls Try.prog 14 #[.pointer none, fuL fa fb f.ret fd fe, .int .i64 i, .int .i64 r] w fun e w' => e = .returned (.bool false) ∧ Below w.heap.size w w' := by
 refine (across_cN f f 0 n 0 0 hn fa fb fd fe i r w (lhid trivial) (lhid (by decide)) hg hrn hrl).mono ?_
 rintro e w1 ⟨b, rfl, hb, hb1⟩
 refine ⟨?_, hb1⟩
 cases b with
 | false => rfl
 | true =>
  obtain ⟨a, _, _, ⟨_, h⟩ | ⟨z, _, h⟩⟩ := hb.1 rfl
  ·exact h.elim
  ·exact h.elim
end Go.Proofs.Ytoommeiiadobfaa
