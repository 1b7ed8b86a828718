/- Texts of this claim, joined: DLivBefore, DLivIdx, DLivAfter, DLivAcross, DLivRegs, DLivHold, DLivSetL. -/
import Derived.Test.YtoommeiiadobfaaJDLivOf
import Derived.Test.YtoommeiiadobfaaDM16
import Derived.Test.YtoommeiiadobfaaDM13
import Derived.Test.YtoommeiiadobfaaDM5
/- Is a register live ahead of a place: the program's Before. -/
namespace Go.Proofs.Ytoommeiiadobfaa
open Go.RowKit Go
set_option linter.unusedVariables false
set_option linter.unusedSimpArgs false
def TabM (f : FuI) (n R : Nat) (w : World) (TB : Nat) : Prop := ∃ (NA : Option Addr) (nc : Nat) (u : Value) (L : List (Nat → Mk)), w.heap[TB]? = some (.cells #[.slice NA n nc, u] 49 (0, 0)) ∧ RdX Tru 1 (LsE Tru) w (.slice NA n nc) ((List.range n).map fun i => nextL f (i : Nat)) ∧ RdX Tru 1 (MkE n Tru) w u L ∧ L.length = (R + 63) / 64 ∧ ∀ (k : Nat) m, L[k]? = some m → ∀ b i, b < 64 → i < n → ((m i).getLsbD b = true ↔ Rd f ((64 * k + b : Nat) : Int) i)
theorem TabM.below {f : FuI} {n R TB : Nat} {w w' : World} (h : TabM f n R w TB) (hb : Below w.heap.size w w') : TabM f n R w' TB := by
 obtain ⟨NA, nc, u, L, h1, h2, h3, h4, h5⟩ := h
 exact ⟨NA, nc, u, L, heap_keep h1 hb, h2.below (keptX_ls _) hb, h3.below (keptX_mk _ _) hb, h4, h5⟩
def BefOut (f : FuI) (n R : Nat) (i r : Int) (w : World) (e : Ending) (w' : World) : Prop := ∃ z : Bool, e = .returned (.bool z) ∧ (z = true ↔ ∃ a b : Nat, i = a ∧ r = b ∧ a < n ∧ b < 64 * ((R + 63) / 64) ∧ Rd f r a) ∧ w' = w
set_option maxHeartbeats 16000000 in
set_option maxRecDepth 100000 in
theorem before_c (f : FuI) (n R TB : Nat) (i r : Int) (w : World) (h : Hid (TabM f n R w TB)) (hz : Hid (R ≤ 20000 ∧ n ≤ 20000)) : Calls Try.prog 10 #[.pointer (some ⟨TB, 0, none⟩), .int .i64 i, .int .i64 r] w fun e w' => BefOut f n R i r w e w' := by
 obtain ⟨NA, nc, u, L, hT, h2, h3, h4, h5⟩ := h.out
 obtain ⟨A, c, hu⟩ := h3.shape
 subst hu
 have q0 := heap_cell (i := 0) hT rfl
 have q1 := heap_cell (i := 1) hT rfl
 have HT := lhid hT
 have HL := lhid h3
 have HK := lhid h4
 have HSP := lhid h5
 obtain ⟨z1, hz1⟩ : ∃ z1, (decide (0 ≤ i) && decide (i < n)) = z1 := ⟨_, rfl⟩
 have HZ1 := lhid hz1
 have hwK : wrap64 ((L.length : Int) * 64) = (L.length : Int) * 64 := IntWalk.wrap64_in _ (by have := hz.out; omega)
 obtain ⟨z2, hz2⟩ : ∃ z2, (decide (0 ≤ r) && decide (r < (L.length : Int) * 64)) = z2 := ⟨_, rfl⟩
 have HZ2 := lhid hz2
 clear hT h2 h3 h4 h5 hz1 hz2 h
 go_enter Try.func10, Try.ntmps10
 go_wp2_with fail
 with_reducible refine (isAt_c i n z1 _ HZ1).mono ?_
 rintro e w1 ⟨rfl, rfl⟩
 cases z1 with
 | false =>
  go_wp2_with fail
  go_ret
  refine ⟨false, rfl, ⟨fun h => (by cases h), ?_⟩, rfl⟩
  rintro ⟨a, b, ha, hb, han, _⟩
  have h1 := HZ1.out
  simp at h1
  omega
 | true =>
  go_wp2_with fail
  with_reducible refine (isAt_c r ((L.length : Int) * 64) z2 _ HZ2).mono ?_
  rintro e w2 ⟨rfl, rfl⟩
  cases z2 with
  | false =>
   go_wp2_with fail
   go_ret
   refine ⟨false, rfl, ⟨fun h => (by cases h), ?_⟩, rfl⟩
   rintro ⟨a, b, ha, hb, han, hbn, _⟩
   have h1 := HZ2.out
   have h2 := HK.out
   simp at h1
   omega
  | true =>
   obtain ⟨a, ha, han⟩ : ∃ a : Nat, i = a ∧ a < n := by
    have h1 := HZ1.out
    simp at h1
    exact ⟨i.toNat, by omega, by omega⟩
   obtain ⟨b, hb, hbn⟩ : ∃ b : Nat, r = b ∧ b < L.length * 64 := by
    have h1 := HZ2.out
    simp at h1
    exact ⟨r.toNat, by omega, by omega⟩
   subst ha hb
   obtain ⟨k1, hk1⟩ : ∃ k1, b / 64 = k1 := ⟨_, rfl⟩
   obtain ⟨k2, hk2⟩ : ∃ k2, b % 64 = k2 := ⟨_, rfl⟩
   have hLs : L.length ≤ 20000 := by have h1 := HK.out; have h2 := hz.out; omega
   obtain ⟨m, hm⟩ : ∃ m, L[k1]? = some m := ⟨_, List.getElem?_eq_getElem (by omega)⟩
   obtain ⟨g, o, cc, hA, _, ⟨gm, hcc, _, hmk⟩, hcell⟩ := HL.out.at' hm
   subst hA hcc
   have c0 : w2.cell? ⟨g, o + k1, none⟩ = some (.slice (some ⟨gm, 0, none⟩) n n) := by have h1 := hcell 0 _ rfl; simpa using h1
   have c1 := hmk.at' han
   have hk3 : (k1 : Int) < L.length := by omega
   have hk4 : (a : Int) < n := by omega
   have hk5 : k2 < 64 := by omega
   have hq : wrap64 ((b : Int) / 64) = (k1 : Int) := by rw [IntWalk.wrap64_in _ (by omega)]; omega
   have hr : wrap64 ((b : Int) % 64) = (k2 : Int) := by rw [IntWalk.wrap64_in _ (by omega)]; omega
   have HR2 : Hid ((b : Int) % 64 = (k2 : Int)) := lhid (by omega)
   have HBK : Hid (b = 64 * k1 + k2 ∧ b < L.length * 64) := lhid (by omega)
   have HM := lhid hm
   clear hm hmk hk1 hk2 hbn hLs
   clear hcell
   go_wp2_with fail
   rw [HR2.out]
   with_reducible refine (has_c (m a) k2 hk5 _).mono ?_
   rintro e w3 ⟨rfl, rfl⟩
   go_wp2_with fail
   go_ret
   refine ⟨_, rfl, ?_, rfl⟩
   have h1 := HSP.out k1 m HM.out k2 a hk5 han
   rw [BitVec.getLsbD_eq_getElem hk5] at h1
   rw [h1, ← HBK.out.1]
   constructor
   ·intro h9
    exact ⟨a, b, rfl, rfl, han, by have h2 := HK.out; have h3 := HBK.out.2; omega, h9⟩
   ·rintro ⟨a2, b2, ha, hb, _, _, h9⟩
    have e1 : a = a2 := by omega
    have e2 : b = b2 := by omega
    subst e1 e2
    exact h9
end Go.Proofs.Ytoommeiiadobfaa
/- Is one of a list's places such that a register is live ahead of it: ContainsFunc over the closures of After and Across. -/
namespace Go.Proofs.Ytoommeiiadobfaa
open Go.RowKit Go
set_option linter.unusedVariables false
set_option linter.unusedSimpArgs false
def BefP (f : FuI) (n R : Nat) (z r : Int) : Prop := ∃ a b : Nat, z = a ∧ r = b ∧ a < n ∧ b < 64 * ((R + 63) / 64) ∧ Rd f r a
set_option maxHeartbeats 16000000 in
set_option maxRecDepth 100000 in
theorem one_af (f : FuI) (n R TB p1 p2 : Nat) (z r : Int) (w : World) (h : Hid (TabM f n R w TB)) (hz : Hid (R ≤ 20000 ∧ n ≤ 20000)) (h1 : Hid (w.cell? ⟨p1, 0, none⟩ = some (.pointer (some ⟨TB, 0, none⟩)) ∧ w.cell? ⟨p2, 0, none⟩ = some (.int .i64 r))) :
  Calls Try.prog 35 #[.int .i64 z, .pointer (some ⟨p1, 0, none⟩), .pointer (some ⟨p2, 0, none⟩)] w fun e w' => ∃ b : Bool, e = .returned (.bool b) ∧ (b = true ↔ BefP f n R z r) ∧ w' = w := by
 obtain ⟨c1, c2⟩ := h1.out
 go_enter Try.func35, Try.ntmps35
 go_wp2_with fail
 with_reducible refine (before_c f n R TB z r _ h hz).mono ?_
 rintro e w1 ⟨b, rfl, hb, rfl⟩
 go_wp2_with fail
 go_ret
 exact ⟨b, rfl, hb, rfl⟩
def IdxOut (f : FuI) (n R : Nat) (l : List Int) (r : Int) (w : World) (e : Ending) (w' : World) : Prop := ∃ i : Int, e = .returned (.int .i64 i) ∧ (0 ≤ i ↔ ∃ z ∈ l, BefP f n R z r) ∧ w' = w
set_option maxHeartbeats 16000000 in
set_option maxRecDepth 100000 in
theorem idx_af (f : FuI) (n R TB p1 p2 : Nat) (l : List Int) (A : Option Addr) (cap : Nat) (r : Int) (w : World) (h : Hid (TabM f n R w TB)) (hz : Hid (R ≤ 20000 ∧ n ≤ 20000)) (h1 : Hid (w.cell? ⟨p1, 0, none⟩ = some (.pointer (some ⟨TB, 0, none⟩)) ∧ w.cell? ⟨p2, 0, none⟩ = some (.int .i64 r))) (hl : Hid (RdX Tru 1 NuE w (.slice A l.length cap) l)) :
  Calls Try.prog 63 #[.slice A l.length cap, .func (.func 35) #[] #[.pointer (some ⟨p1, 0, none⟩), .pointer (some ⟨p2, 0, none⟩)]] w fun e w' => IdxOut f n R l r w e w' := by
 have HLN := lhid hl.out.len
 go_enter Try.func63, Try.ntmps63
 go_wp2_with fail
 go_loopg [8] l.length (fun g s wr => ∃ k : Nat, g = l.length - k ∧ s = .int .i64 k ∧ k ≤ l.length ∧ wr = w ∧ Hid (∀ z ∈ l.take k, ¬ BefP f n R z r))
 case atStart => exact ⟨0, rfl, rfl, Nat.zero_le _, rfl, lhid (fun z hz => by simp at hz)⟩
 case round =>
  obtain ⟨k, rfl, rfl, hk, rfl, HNo⟩ := hrel
  by_cases hlt : k < l.length
  ·have k3 : (k : Int) < l.length := Int.ofNat_lt.2 hlt
   have hwk : wrap64 ((k : Int) + 1) = ((k + 1 : Nat) : Int) := by rw [IntWalk.wrap64_in _ (by have := HLN.out; omega)]; omega
   obtain ⟨z, hzk⟩ : ∃ z, l[k]? = some z := ⟨_, List.getElem?_eq_getElem hlt⟩
   obtain ⟨gl, ol, hA, c0⟩ := nu_cell hl.out hzk
   subst hA
   have HZK := lhid hzk
   clear hzk
   go_wp2_with fail
   with_reducible refine (one_af f n R TB p1 p2 z r _ h hz h1).mono ?_
   rintro e w1 ⟨b, rfl, hb, rfl⟩
   have HB := lhid hb
   clear hb
   cases b with
   | true =>
    go_wp2_with fail
    go_ret
    exact ⟨(k : Int), rfl, ⟨fun _ => ⟨z, List.mem_of_getElem? HZK.out, HB.out.1 (by first | rfl | trivial)⟩, fun _ => by omega⟩, rfl⟩
   | false =>
    go_wp2_with fail
    go_roundg (l.length - (k + 1))
    case measure => omega
    case rel => exact ⟨k + 1, rfl, by first | rfl | rw [hwk], by omega, rfl, lhid (fun y hy => by
     rw [take_snoc HZK.out] at hy
     rcases List.mem_append.1 hy with h9 | h9
     ·exact HNo.out y h9
     ·rw [List.mem_singleton] at h9
      subst h9
      intro h10
      have := HB.out.2 h10
      cases this)⟩
  ·have k3 : ¬ (k : Int) < l.length := by omega
   have HAll : Hid (∀ z ∈ l, ¬ BefP f n R z r) := lhid (by have h9 := HNo.out; rw [List.take_of_length_le (by omega)] at h9; exact h9)
   go_wp2_with fail
   go_ret
   exact ⟨-1, rfl, ⟨fun h9 => absurd h9 (by omega), fun ⟨z, h9, h10⟩ => absurd h10 (HAll.out z h9)⟩, rfl⟩
theorem has_af (f : FuI) (n R TB p1 p2 : Nat) (l : List Int) (A : Option Addr) (cap : Nat) (r : Int) (w : World) (h : Hid (TabM f n R w TB)) (hz : Hid (R ≤ 20000 ∧ n ≤ 20000)) (h1 : Hid (w.cell? ⟨p1, 0, none⟩ = some (.pointer (some ⟨TB, 0, none⟩)) ∧ w.cell? ⟨p2, 0, none⟩ = some (.int .i64 r))) (hl : Hid (RdX Tru 1 NuE w (.slice A l.length cap) l)) :
  Calls Try.prog 34 #[.slice A l.length cap, .func (.func 35) #[] #[.pointer (some ⟨p1, 0, none⟩), .pointer (some ⟨p2, 0, none⟩)]] w fun e w' => ∃ b : Bool, e = .returned (.bool b) ∧ (b = true ↔ ∃ z ∈ l, BefP f n R z r) ∧ w' = w := by
 go_enter Try.func34, Try.ntmps34
 go_wp2_with fail
 with_reducible refine (idx_af f n R TB p1 p2 l A cap r _ h hz h1 hl).mono ?_
 rintro e w1 ⟨i, rfl, hi, rfl⟩
 have HI := lhid hi
 clear hi
 go_wp2_with fail
 go_ret
 exact ⟨decide (0 ≤ i), rfl, by rw [decide_eq_true_eq]; exact HI.out, rfl⟩
set_option maxHeartbeats 16000000 in
set_option maxRecDepth 100000 in
theorem one_ac (f : FuI) (n R TB p1 p2 : Nat) (z r : Int) (w : World) (h : Hid (TabM f n R w TB)) (hz : Hid (R ≤ 20000 ∧ n ≤ 20000)) (h1 : Hid (w.cell? ⟨p1, 0, none⟩ = some (.pointer (some ⟨TB, 0, none⟩)) ∧ w.cell? ⟨p2, 0, none⟩ = some (.int .i64 r))) :
  Calls Try.prog 39 #[.int .i64 z, .pointer (some ⟨p1, 0, none⟩), .pointer (some ⟨p2, 0, none⟩)] w fun e w' => ∃ b : Bool, e = .returned (.bool b) ∧ (b = true ↔ BefP f n R z r) ∧ w' = w := by
 obtain ⟨c1, c2⟩ := h1.out
 go_enter Try.func39, Try.ntmps39
 go_wp2_with fail
 with_reducible refine (before_c f n R TB z r _ h hz).mono ?_
 rintro e w1 ⟨b, rfl, hb, rfl⟩
 go_wp2_with fail
 go_ret
 exact ⟨b, rfl, hb, rfl⟩
set_option maxHeartbeats 16000000 in
set_option maxRecDepth 100000 in
theorem idx_ac (f : FuI) (n R TB p1 p2 : Nat) (l : List Int) (A : Option Addr) (cap : Nat) (r : Int) (w : World) (h : Hid (TabM f n R w TB)) (hz : Hid (R ≤ 20000 ∧ n ≤ 20000)) (h1 : Hid (w.cell? ⟨p1, 0, none⟩ = some (.pointer (some ⟨TB, 0, none⟩)) ∧ w.cell? ⟨p2, 0, none⟩ = some (.int .i64 r))) (hl : Hid (RdX Tru 1 NuE w (.slice A l.length cap) l)) :
  Calls Try.prog 63 #[.slice A l.length cap, .func (.func 39) #[] #[.pointer (some ⟨p1, 0, none⟩), .pointer (some ⟨p2, 0, none⟩)]] w fun e w' => IdxOut f n R l r w e w' := by
 have HLN := lhid hl.out.len
 go_enter Try.func63, Try.ntmps63
 go_wp2_with fail
 go_loopg [8] l.length (fun g s wr => ∃ k : Nat, g = l.length - k ∧ s = .int .i64 k ∧ k ≤ l.length ∧ wr = w ∧ Hid (∀ z ∈ l.take k, ¬ BefP f n R z r))
 case atStart => exact ⟨0, rfl, rfl, Nat.zero_le _, rfl, lhid (fun z hz => by simp at hz)⟩
 case round =>
  obtain ⟨k, rfl, rfl, hk, rfl, HNo⟩ := hrel
  by_cases hlt : k < l.length
  ·have k3 : (k : Int) < l.length := Int.ofNat_lt.2 hlt
   have hwk : wrap64 ((k : Int) + 1) = ((k + 1 : Nat) : Int) := by rw [IntWalk.wrap64_in _ (by have := HLN.out; omega)]; omega
   obtain ⟨z, hzk⟩ : ∃ z, l[k]? = some z := ⟨_, List.getElem?_eq_getElem hlt⟩
   obtain ⟨gl, ol, hA, c0⟩ := nu_cell hl.out hzk
   subst hA
   have HZK := lhid hzk
   clear hzk
   go_wp2_with fail
   with_reducible refine (one_ac f n R TB p1 p2 z r _ h hz h1).mono ?_
   rintro e w1 ⟨b, rfl, hb, rfl⟩
   have HB := lhid hb
   clear hb
   cases b with
   | true =>
    go_wp2_with fail
    go_ret
    exact ⟨(k : Int), rfl, ⟨fun _ => ⟨z, List.mem_of_getElem? HZK.out, HB.out.1 (by first | rfl | trivial)⟩, fun _ => by omega⟩, rfl⟩
   | false =>
    go_wp2_with fail
    go_roundg (l.length - (k + 1))
    case measure => omega
    case rel => exact ⟨k + 1, rfl, by first | rfl | rw [hwk], by omega, rfl, lhid (fun y hy => by
     rw [take_snoc HZK.out] at hy
     rcases List.mem_append.1 hy with h9 | h9
     ·exact HNo.out y h9
     ·rw [List.mem_singleton] at h9
      subst h9
      intro h10
      have := HB.out.2 h10
      cases this)⟩
  ·have k3 : ¬ (k : Int) < l.length := by omega
   have HAll : Hid (∀ z ∈ l, ¬ BefP f n R z r) := lhid (by have h9 := HNo.out; rw [List.take_of_length_le (by omega)] at h9; exact h9)
   go_wp2_with fail
   go_ret
   exact ⟨-1, rfl, ⟨fun h9 => absurd h9 (by omega), fun ⟨z, h9, h10⟩ => absurd h10 (HAll.out z h9)⟩, rfl⟩
theorem has_ac (f : FuI) (n R TB p1 p2 : Nat) (l : List Int) (A : Option Addr) (cap : Nat) (r : Int) (w : World) (h : Hid (TabM f n R w TB)) (hz : Hid (R ≤ 20000 ∧ n ≤ 20000)) (h1 : Hid (w.cell? ⟨p1, 0, none⟩ = some (.pointer (some ⟨TB, 0, none⟩)) ∧ w.cell? ⟨p2, 0, none⟩ = some (.int .i64 r))) (hl : Hid (RdX Tru 1 NuE w (.slice A l.length cap) l)) :
  Calls Try.prog 34 #[.slice A l.length cap, .func (.func 39) #[] #[.pointer (some ⟨p1, 0, none⟩), .pointer (some ⟨p2, 0, none⟩)]] w fun e w' => ∃ b : Bool, e = .returned (.bool b) ∧ (b = true ↔ ∃ z ∈ l, BefP f n R z r) ∧ w' = w := by
 go_enter Try.func34, Try.ntmps34
 go_wp2_with fail
 with_reducible refine (idx_ac f n R TB p1 p2 l A cap r _ h hz h1 hl).mono ?_
 rintro e w1 ⟨i, rfl, hi, rfl⟩
 have HI := lhid hi
 clear hi
 go_wp2_with fail
 go_ret
 exact ⟨decide (0 ≤ i), rfl, by rw [decide_eq_true_eq]; exact HI.out, rfl⟩
end Go.Proofs.Ytoommeiiadobfaa
/- Is a register live behind a place: the program's After. -/
namespace Go.Proofs.Ytoommeiiadobfaa
open Go.RowKit Go
set_option linter.unusedVariables false
set_option linter.unusedSimpArgs false
def AftP (f : FuI) (n R : Nat) (i r : Int) : Prop := ∃ a : Nat, i = a ∧ a < n ∧ ∃ z ∈ nextL f (a : Nat), BefP f n R z r
def AftOut (f : FuI) (n R : Nat) (i r : Int) (w : World) (e : Ending) (w' : World) : Prop := ∃ b : Bool, e = .returned (.bool b) ∧ (b = true ↔ AftP f n R i r) ∧ Below w.heap.size w w'
set_option maxHeartbeats 16000000 in
set_option maxRecDepth 100000 in
theorem after_c (f : FuI) (n R TB : Nat) (i r : Int) (w : World) (h : Hid (TabM f n R w TB)) (hz : Hid (R ≤ 20000 ∧ n ≤ 20000)) : Calls Try.prog 12 #[.pointer (some ⟨TB, 0, none⟩), .int .i64 i, .int .i64 r] w fun e w' => AftOut f n R i r w e w' := by
 obtain ⟨z1, hz1⟩ : ∃ z1, (decide (0 ≤ i) && decide (i < n)) = z1 := ⟨_, rfl⟩
 have HZ1 := lhid hz1
 clear hz1
 go_enter Try.func12, Try.ntmps12
 go_upto_region 1 with fail
 generalize hW : World.alloc _ _ = w1
 obtain ⟨p1, hp1⟩ : ∃ p1, p1 = w.heap.size := ⟨_, rfl⟩
 try rw [← hp1]
 have hb : Below w.heap.size w w1 := by rw [← hW]; exact ((Below.refl _ _).alloc (Nat.le_refl _) _).alloc (by simp) _
 have H1 := lhid (h.out.below hb)
 have c1 : w1.cell? ⟨p1, 0, none⟩ = some (.pointer (some ⟨TB, 0, none⟩)) := by rw [← hW, hp1]; exact heap_cell (heap_keep (heap_alloc_new w _) ((Below.refl _ _).alloc (Nat.le_refl _) _)) rfl
 have c2 : w1.cell? ⟨p1 + 1, 0, none⟩ = some (.int .i64 r) := by rw [← hW, hp1]; exact heap_cell (heap_alloc_new' _ _ _ (by simp)) rfl
 have HB := lhid hb
 have HC12 := lhid (⟨c1, c2⟩ : _ ∧ _)
 clear hW hb hp1
 obtain ⟨NA, nc, u, L, hT, h2, _⟩ := H1.out
 have q0 := heap_cell (i := 0) hT rfl
 have HNX := lhid h2
 clear hT h2
 go_wp2_with fail
 with_reducible refine (isAt_c i n z1 _ HZ1).mono ?_
 rintro e w2 ⟨rfl, rfl⟩
 cases z1 with
 | false =>
  go_wp2_with fail
  go_ret
  refine ⟨false, rfl, ⟨fun h => (by cases h), ?_⟩, HB.out⟩
  rintro ⟨a, ha, han, _⟩
  have h1 := HZ1.out
  simp at h1
  omega
 | true =>
  obtain ⟨a, ha, han⟩ : ∃ a : Nat, i = a ∧ a < n := by
   have h1 := HZ1.out
   simp at h1
   exact ⟨i.toNat, by omega, by omega⟩
  subst ha
  have hin : (a : Int) < n := by omega
  obtain ⟨gl, ol, A, cap, hA, cl, hrl⟩ := ls_cell HNX.out (i := a) (l := nextL f (a : Nat)) (by simp [han])
  subst hA
  have hgl := cell_lt cl
  have HRL := lhid hrl
  clear hrl
  have hmf : ∀ (fn : Fn) (first cap : Array Value) (w : World), (Instr.makeFunc fn first cap).run Try.prog w = .ok (.func fn first cap) w := fun _ _ _ _ => rfl
  go_wp2_with fail
  with_reducible refine (has_af f n R TB p1 (p1 + 1) (nextL f (a : Nat)) A cap r _ H1 hz HC12 HRL).mono ?_
  rintro e w3 ⟨b, rfl, hb, rfl⟩
  have HBB := lhid hb
  clear hb
  go_wp2_with fail
  go_ret
  refine ⟨b, rfl, ?_, HB.out⟩
  rw [HBB.out]
  constructor
  ·intro h9
   exact ⟨a, rfl, han, h9⟩
  ·rintro ⟨a2, ha, _, h9⟩
   have e1 : a = a2 := by omega
   subst e1
   exact h9
end Go.Proofs.Ytoommeiiadobfaa
/- Is a register live across a place: the program's Across. -/
namespace Go.Proofs.Ytoommeiiadobfaa
open Go.RowKit Go
set_option linter.unusedVariables false
set_option linter.unusedSimpArgs false
def AcrP (f g : FuI) (n m R : Nat) (i r : Int) : Prop := ∃ a : Nat, i = a ∧ a < m ∧ ((defAt g a ≠ r ∧ AftP f n R i r) ∨ ∃ z ∈ caughtL g (a : Nat), BefP f n R z r)
def AcrOut (f g : FuI) (n m R : Nat) (i r : Int) (w : World) (e : Ending) (w' : World) : Prop := ∃ b : Bool, e = .returned (.bool b) ∧ (b = true ↔ AcrP f g n m R i r) ∧ Below w.heap.size w w'
set_option maxHeartbeats 16000000 in
set_option maxRecDepth 100000 in
theorem across_c {P : Nat → Prop} (f g : FuI) (n m R TB : Nat) (hm : g.code.length = m) (fa fb fd fe : Value) (i r : Int) (w : World) (h : Hid (TabM f n R w TB)) (hz : Hid (R ≤ 20000 ∧ n ≤ 20000)) (hg : Hid (FuV P w g fa fb fd fe)) (hrn : Hid (RwN g.rows)) (hrl : Hid (g.rows.length * 8 ≤ 140737488355328)) : Calls Try.prog 14 #[.pointer (some ⟨TB, 0, none⟩), fuL fa fb g.ret fd fe, .int .i64 i, .int .i64 r] w fun e w' => AcrOut f g n m R i r w e w' := by
  obtain ⟨FA, ac, hFA⟩ := hg.out.a.shape
  subst hFA
  obtain ⟨FB, bc, hFB⟩ := hg.out.b.shape
  subst hFB
  obtain ⟨D, dcap, hD⟩ := hg.out.d.shape
  subst hD
  obtain ⟨E, ecap, hE⟩ := hg.out.e.shape
  subst hE
  have HM := lhid hm
  have hf2 := hg.out
  rw [hm] at hf2 ⊢
  have HFU := lhid hf2
  clear hm hf2 hg
  obtain ⟨z1, hz1⟩ : ∃ z1, (decide (0 ≤ i) && decide (i < m)) = z1 := ⟨_, rfl⟩
  have HZ1 := lhid hz1
  clear hz1
  go_enter Try.func14, Try.ntmps14
  go_upto_region 1 with fail
  generalize hW : World.alloc _ _ = w1
  obtain ⟨p1, hp1⟩ : ∃ p1, p1 = w.heap.size := ⟨_, rfl⟩
  try rw [← hp1]
  have hb : Below w.heap.size w w1 := by rw [← hW]; exact (((Below.refl _ _).alloc (Nat.le_refl _) _).alloc (by simp) _).alloc (by simp; omega) _
  have c1 : w1.cell? ⟨p1, 0, none⟩ = some (.pointer (some ⟨TB, 0, none⟩)) := by rw [← hW, hp1]; exact heap_cell (heap_keep (heap_keep (heap_alloc_new w _) ((Below.refl _ _).alloc (Nat.le_refl _) _)) ((Below.refl _ _).alloc (Nat.le_refl _) _)) rfl
  have hF1 : FBox w1 (p1 + 1) (.slice FA g.regs.length ac) (.slice FB g.params.length bc) g.ret (.slice D m dcap) (.slice E g.rows.length ecap) := by rw [← hW, hp1]; exact heap_keep (heap_alloc_new' _ _ _ (by simp)) ((Below.refl _ _).alloc (Nat.le_refl _) _)
  have c2 : w1.cell? ⟨p1 + 2, 0, none⟩ = some (.int .i64 r) := by rw [← hW, hp1]; exact heap_cell (heap_alloc_new' _ _ _ (by simp)) rfl
  have HB1 := lhid hb
  have HF1 := lhid hF1
  have HC12 := lhid (⟨c1, c2⟩ : _ ∧ _)
  obtain ⟨p0, p1', p2, p3, p4⟩ := hF1.cells
  clear hW hb hp1 hF1
  go_wp2_with fail
  with_reducible refine (isAt_c i m z1 _ HZ1).mono ?_
  rintro e w2 ⟨rfl, rfl⟩
  cases z1 with
  | false =>
    go_wp2_with fail
    go_ret
    refine ⟨false, rfl, ⟨fun h => (by cases h), ?_⟩, HB1.out⟩
    rintro ⟨a, ha, han, _⟩
    have h1 := HZ1.out
    simp at h1
    omega
  | true =>
    obtain ⟨a, ha, ham⟩ : ∃ a : Nat, i = a ∧ a < m := by
      have h1 := HZ1.out
      simp at h1
      exact ⟨i.toNat, by omega, by omega⟩
    subst ha
    have hin : (a : Int) < m := by omega
    obtain ⟨x, hx⟩ : ∃ x, g.code[a]? = some x := ⟨_, List.getElem?_eq_getElem (by have := HM.out; omega)⟩
    obtain ⟨dz, hdz⟩ : ∃ dz, defI x = dz := ⟨_, rfl⟩
    have HDZ := lhid hdz
    have HDA : Hid (defAt g a = dz) := lhid (by unfold defAt; rw [hx]; exact hdz)
    go_upto_region 3 with fail
    clear p0 p1' p2 p3 p4 c1 c2 hdz
    obtain ⟨w3, hw3⟩ : ∃ w3, w3 = w2.drew := ⟨_, rfl⟩
    have hb3 : Below w2.heap.size w2 w3 := by rw [hw3]; exact Below.drew' (Below.refl _ _)
    have HB3 : Hid (Below w.heap.size w w3) := lhid (HB1.out.trans (hb3.mono HB1.out.size))
    have HB23 := lhid hb3
    obtain ⟨gi, o, v, hD, _, hva, c0, c1, c2, c3, c4, c5, c6, c7, c8⟩ := in_cells (HFU.out.below HB3.out).d hx
    subst hD
    obtain ⟨VA, vc, hv0⟩ := hva.shape
    subst hv0
    have HCELL : Hid (∀ w' : World, Below w3.heap.size w3 w' → w'.cell? ⟨p1 + 1, 0, none⟩ = some (.slice FA g.regs.length ac) ∧ w'.cell? ⟨p1 + 1, 1, none⟩ = some (.slice FB g.params.length bc) ∧ w'.cell? ⟨p1 + 1, 2, none⟩ = some (.int .i64 g.ret) ∧ w'.cell? ⟨p1 + 1, 3, none⟩ = some (.slice (some ⟨gi, o, none⟩) m dcap) ∧ w'.cell? ⟨p1 + 1, 4, none⟩ = some (.slice E g.rows.length ecap) ∧ w'.cell? ⟨p1, 0, none⟩ = some (.pointer (some ⟨TB, 0, none⟩)) ∧ w'.cell? ⟨p1 + 2, 0, none⟩ = some (.int .i64 r) ∧ w'.cell? ⟨gi, o + a * 9, none⟩ = some (.int .i64 x.op) ∧ w'.cell? ⟨gi, o + a * 9 + 1, none⟩ = some (.int .i64 x.dst) ∧ w'.cell? ⟨gi, o + a * 9 + 2, none⟩ = some (.int .i64 x.a) ∧ w'.cell? ⟨gi, o + a * 9 + 3, none⟩ = some (.int .i64 x.b) ∧ w'.cell? ⟨gi, o + a * 9 + 4, none⟩ = some (.int .i64 x.c) ∧ w'.cell? ⟨gi, o + a * 9 + 5, none⟩ = some (.int .i64 x.num) ∧ w'.cell? ⟨gi, o + a * 9 + 6, none⟩ = some (.int .i64 x.too) ∧ w'.cell? ⟨gi, o + a * 9 + 7, none⟩ = some (.string (tx x.ref)) ∧ w'.cell? ⟨gi, o + a * 9 + 8, none⟩ = some (.slice VA x.args.length vc)) := lhid (fun w' hw' => by
      have hf : w'.heap[p1 + 1]? = _ := heap_keep (heap_keep HF1.out HB23.out) hw'
      have kc : ∀ {p : Addr} {u : Value}, w3.cell? p = some u → w'.cell? p = some u := fun {p u} hq => (hw'.cell (p := p) (cell_lt hq)).trans hq
      have k2 : ∀ {p : Addr} {u : Value}, w2.cell? p = some u → w'.cell? p = some u := fun {p u} hq => kc ((HB23.out.cell (p := p) (cell_lt hq)).trans hq)
      exact ⟨heap_cell hf rfl, heap_cell hf rfl, heap_cell hf rfl, heap_cell hf rfl, heap_cell hf rfl, k2 HC12.out.1, k2 HC12.out.2, kc c0, kc c1, kc c2, kc c3, kc c4, kc c5, kc c6, kc c7, kc c8⟩)
    clear c0 c1 c2 c3 c4 c5 c6 c7 c8 hva hb3
    refine wp_region_held_drew (S := fun w' => Below w3.heap.size w3 w') (by kernel_rfl) (by rw [hw3]; exact Below.refl _ _) ?_
    intro hS0
    rw [← hw3] at hS0 ⊢
    clear hw3 hx
    refine wpAnyH_take (i := 0) (v := ?tv801) rfl (by kernel_rfl) (by kernel_rfl) (by kernel_rfl) (fun _ _ _ h => h) (Or.inl ⟨by rfl, ?ty801⟩) hS0 ?tr801
    case ty801 => (intro w' hw'; obtain ⟨p0, p1, p2, p3, p4, t1, r1, c0, c1, c2, c3, c4, c5, c6, c7, c8⟩ := HCELL.out w' hw'; go_simp; try with_reducible rfl)
    try simp only [List.getElem_toArray, List.getElem_cons_zero, List.getElem_cons_succ]
    try simp only [Act.put, List.setIfInBounds_toArray, List.set_cons_zero, List.set_cons_succ]
    refine wpAnyH_take (i := 1) (v := ?tv802) rfl (by kernel_rfl) (by kernel_rfl) (by kernel_rfl) (fun _ _ _ h => h) (Or.inl ⟨by rfl, ?ty802⟩) hS0 ?tr802
    case ty802 => (intro w' hw'; obtain ⟨p0, p1, p2, p3, p4, t1, r1, c0, c1, c2, c3, c4, c5, c6, c7, c8⟩ := HCELL.out w' hw'; go_simp; try with_reducible rfl)
    try simp only [List.getElem_toArray, List.getElem_cons_zero, List.getElem_cons_succ]
    try simp only [Act.put, List.setIfInBounds_toArray, List.set_cons_zero, List.set_cons_succ]
    refine wpAnyH_take (i := 2) (v := ?tv803) rfl (by kernel_rfl) (by kernel_rfl) (by kernel_rfl) (fun _ _ _ h => h) (Or.inl ⟨by rfl, ?ty803⟩) hS0 ?tr803
    case ty803 => (intro w' hw'; obtain ⟨p0, p1, p2, p3, p4, t1, r1, c0, c1, c2, c3, c4, c5, c6, c7, c8⟩ := HCELL.out w' hw'; go_simp; try with_reducible rfl)
    try simp only [List.getElem_toArray, List.getElem_cons_zero, List.getElem_cons_succ]
    try simp only [Act.put, List.setIfInBounds_toArray, List.set_cons_zero, List.set_cons_succ]
    refine wpAnyH_take (i := 3) (v := ?tv804) rfl (by kernel_rfl) (by kernel_rfl) (by kernel_rfl) (fun _ _ _ h => h) (Or.inl ⟨by rfl, ?ty804⟩) hS0 ?tr804
    case ty804 => (intro w' hw'; obtain ⟨p0, p1, p2, p3, p4, t1, r1, c0, c1, c2, c3, c4, c5, c6, c7, c8⟩ := HCELL.out w' hw'; go_simp; try with_reducible rfl)
    try simp only [List.getElem_toArray, List.getElem_cons_zero, List.getElem_cons_succ]
    try simp only [Act.put, List.setIfInBounds_toArray, List.set_cons_zero, List.set_cons_succ]
    refine wpAnyH_take (i := 4) (v := ?tv805) rfl (by kernel_rfl) (by kernel_rfl) (by kernel_rfl) (fun _ _ _ h => h) (Or.inl ⟨by rfl, ?ty805⟩) hS0 ?tr805
    case ty805 => (intro w' hw'; obtain ⟨p0, p1, p2, p3, p4, t1, r1, c0, c1, c2, c3, c4, c5, c6, c7, c8⟩ := HCELL.out w' hw'; go_simp; try with_reducible rfl)
    try simp only [List.getElem_toArray, List.getElem_cons_zero, List.getElem_cons_succ]
    try simp only [Act.put, List.setIfInBounds_toArray, List.set_cons_zero, List.set_cons_succ]
    refine wpAnyH_take (i := 6) (v := ?tv806) rfl (by kernel_rfl) (by kernel_rfl) (by kernel_rfl) (fun _ _ _ h => h) (Or.inl ⟨by rfl, ?ty806⟩) hS0 ?tr806
    case ty806 => (intro w' hw'; obtain ⟨p0, p1, p2, p3, p4, t1, r1, c0, c1, c2, c3, c4, c5, c6, c7, c8⟩ := HCELL.out w' hw'; go_simp; try with_reducible rfl)
    try simp only [List.getElem_toArray, List.getElem_cons_zero, List.getElem_cons_succ]
    try simp only [Act.put, List.setIfInBounds_toArray, List.set_cons_zero, List.set_cons_succ]
    refine wpAnyH_ready (rs := [5]) (by kernel_rfl) (by simp) ?_
    refine AllReadyH.cons rfl (fun K hK => ?_) AllReadyH.nil
    go_simp
    refine (def_w x (.slice VA x.args.length vc) w3 dz (lhid HDZ.out)).mono ?_
    rintro e w4 ⟨rfl, hb4⟩
    dsimp only
    refine hK.out _ _ hb4 (fun _ => ?_)
    clear hK K
    try simp only [Act.put, List.setIfInBounds_toArray, List.set_cons_zero, List.set_cons_succ]
    have HB4 := lhid hb4
    by_cases hq : dz = r
    · have hbq : (dz != r) = false := by rw [hq]; simp
      have HNO : Hid (¬ (defAt g a ≠ r ∧ AftP f n R (a : Int) r)) := lhid (fun h9 => h9.1 (HDA.out.trans hq))
      clear hq
      refine wpAnyH_quiet_tail 7 (by rfl) (by kernel_rfl) (by kernel_rfl) hb4 ?_
      simp only [List.drop_succ_cons, List.drop_zero]
      repeat (first
        | go_big_quiet_skip
        | (go_big_quiet_want
           refine quiet_of_run (v := ?_) (fun w' hw' => ?_) ?_
           rotate_left
           · (go_simp; try with_reducible rfl)
           go_big_quiet_on
           try simp only [Act.put, List.setIfInBounds_toArray, List.set_cons_zero, List.set_cons_succ]))
      refine wpQuiet_nil ?_
      intro wx hwx
      have HB35 := lhid hwx
      obtain ⟨w5, hw5⟩ : ∃ w5, w5 = wx := ⟨_, rfl⟩
      subst hw5
      clear hwx hb4 hS0
      have HB15 : Hid (Below w2.heap.size w2 w5) := lhid (HB23.out.trans (HB35.out.mono HB23.out.size))
      have HB5 : Hid (Below w.heap.size w w5) := lhid (HB1.out.trans (HB15.out.mono HB1.out.size))
      have HU5 := lhid (HFU.out.below HB5.out)
      have H5 := lhid (h.out.below HB5.out)
      have HF5 : Hid (FBox w5 (p1 + 1) (.slice FA g.regs.length ac) (.slice FB g.params.length bc) g.ret (.slice (some ⟨gi, o, none⟩) m dcap) (.slice E g.rows.length ecap)) := lhid (heap_keep HF1.out HB15.out)
      obtain ⟨p0, p1', p2, p3, p4⟩ := HF5.out.cells
      have HC5 : Hid (w5.cell? ⟨p1, 0, none⟩ = some (.pointer (some ⟨TB, 0, none⟩)) ∧ w5.cell? ⟨p1 + 2, 0, none⟩ = some (.int .i64 r)) := lhid ⟨(HB15.out.cell (cell_lt HC12.out.1)).trans HC12.out.1, (HB15.out.cell (cell_lt HC12.out.2)).trans HC12.out.2⟩
      have hmf : ∀ (fn : Fn) (first cap : Array Value) (w : World), (Instr.makeFunc fn first cap).run Try.prog w = .ok (.func fn first cap) w := fun _ _ _ _ => rfl
      go_wp2_with fail
      with_reducible refine (caught_any g _ _ _ _ (a : Int) w5 HU5 hrn hrl).mono ?_
      rintro e w6 ⟨v, rfl, hov, hb6⟩
      obtain ⟨KA, kc, rfl⟩ := own_shape hov
      have hkl : (caughtL g a).length ≤ 140737488355328 := by have h1 := caughtL_len g a; have h2 := hrl.out; omega
      have HRK : Hid (RdX Tru 1 NuE w6 (.slice KA (caughtL g a).length kc) (caughtL g a)) := lhid ((OwN.rd hov hkl).any fun _ _ => trivial)
      have H6 := lhid (H5.out.below hb6)
      have HC6 : Hid (w6.cell? ⟨p1, 0, none⟩ = some (.pointer (some ⟨TB, 0, none⟩)) ∧ w6.cell? ⟨p1 + 2, 0, none⟩ = some (.int .i64 r)) := lhid ⟨(hb6.cell (cell_lt HC5.out.1)).trans HC5.out.1, (hb6.cell (cell_lt HC5.out.2)).trans HC5.out.2⟩
      have HB6 : Hid (Below w.heap.size w w6) := lhid (HB5.out.trans (hb6.mono HB5.out.size))
      clear hov hb6 p0 p1' p2 p3 p4
      go_wp2_with fail
      with_reducible refine (has_ac f n R TB p1 (p1 + 2) (caughtL g a) KA kc r _ H6 hz HC6 HRK).mono ?_
      rintro e w7 ⟨b, rfl, hb, rfl⟩
      have HBB := lhid hb
      clear hb
      go_wp2_with fail
      go_ret
      refine ⟨b, rfl, ?_, HB6.out⟩
      rw [HBB.out]
      constructor
      · intro h9
        exact ⟨a, rfl, ham, .inr h9⟩
      · rintro ⟨a2, ha, _, h9⟩
        have e1 : a = a2 := by omega
        subst e1
        rcases h9 with h9 | h9
        · exact absurd h9 HNO.out
        · exact h9
    · have hbq : (dz != r) = true := by simpa using hq
      have HQ := lhid hq
      clear hq
      refine wpAnyH_take (i := 7) (v := ?tv807) rfl (by kernel_rfl) (by kernel_rfl) (by kernel_rfl) (fun _ _ _ h => h) (Or.inl ⟨by rfl, ?ty807⟩) hb4 ?tr807
      case ty807 => (intro w' hw'; obtain ⟨p0, p1, p2, p3, p4, t1, r1, c0, c1, c2, c3, c4, c5, c6, c7, c8⟩ := HCELL.out w' hw'; go_simp; try with_reducible rfl)
      try simp only [List.getElem_toArray, List.getElem_cons_zero, List.getElem_cons_succ]
      try simp only [Act.put, List.setIfInBounds_toArray, List.set_cons_zero, List.set_cons_succ]
      refine wpAnyH_take (i := 8) (v := ?tv808) rfl (by kernel_rfl) (by kernel_rfl) (by kernel_rfl) (fun _ _ _ h => h) (Or.inl ⟨by rfl, ?ty808⟩) hb4 ?tr808
      case ty808 => (intro w' hw'; obtain ⟨p0, p1, p2, p3, p4, t1, r1, c0, c1, c2, c3, c4, c5, c6, c7, c8⟩ := HCELL.out w' hw'; go_simp; try with_reducible rfl)
      try simp only [List.getElem_toArray, List.getElem_cons_zero, List.getElem_cons_succ]
      try simp only [Act.put, List.setIfInBounds_toArray, List.set_cons_zero, List.set_cons_succ]
      refine wpAnyH_take (i := 9) (v := ?tv809) rfl (by kernel_rfl) (by kernel_rfl) (by kernel_rfl) (fun _ _ _ h => h) (Or.inl ⟨by rfl, ?ty809⟩) hb4 ?tr809
      case ty809 => (intro w' hw'; obtain ⟨p0, p1, p2, p3, p4, t1, r1, c0, c1, c2, c3, c4, c5, c6, c7, c8⟩ := HCELL.out w' hw'; go_simp; try with_reducible rfl)
      try simp only [List.getElem_toArray, List.getElem_cons_zero, List.getElem_cons_succ]
      try simp only [Act.put, List.setIfInBounds_toArray, List.set_cons_zero, List.set_cons_succ]
      refine wpAnyH_take (i := 10) (v := ?tv810) rfl (by kernel_rfl) (by kernel_rfl) (by kernel_rfl) (fun _ _ _ h => h) (Or.inl ⟨by rfl, ?ty810⟩) hb4 ?tr810
      case ty810 => (intro w' hw'; obtain ⟨p0, p1, p2, p3, p4, t1, r1, c0, c1, c2, c3, c4, c5, c6, c7, c8⟩ := HCELL.out w' hw'; go_simp; try with_reducible rfl)
      try simp only [List.getElem_toArray, List.getElem_cons_zero, List.getElem_cons_succ]
      try simp only [Act.put, List.setIfInBounds_toArray, List.set_cons_zero, List.set_cons_succ]
      refine wpAnyH_take (i := 11) (v := ?tv811) rfl (by kernel_rfl) (by kernel_rfl) (by kernel_rfl) (fun _ _ _ h => h) (Or.inl ⟨by rfl, ?ty811⟩) hb4 ?tr811
      case ty811 => (intro w' hw'; obtain ⟨p0, p1, p2, p3, p4, t1, r1, c0, c1, c2, c3, c4, c5, c6, c7, c8⟩ := HCELL.out w' hw'; go_simp; try with_reducible rfl)
      try simp only [List.getElem_toArray, List.getElem_cons_zero, List.getElem_cons_succ]
      try simp only [Act.put, List.setIfInBounds_toArray, List.set_cons_zero, List.set_cons_succ]
      refine wpAnyH_ready (rs := [12]) (by kernel_rfl) (by simp) ?_
      refine AllReadyH.cons rfl (fun K hK => ?_) AllReadyH.nil
      rw [if_pos (by rfl)]
      go_simp
      refine (after_c f n R TB (a : Int) r w4 (lhid (h.out.below (HB3.out.trans (HB4.out.mono HB3.out.size)))) hz).mono ?_
      rintro e w5 ⟨b, rfl, hb, hb5⟩
      have HAF := lhid hb
      clear hb
      have hS5 : Below w3.heap.size w3 w5 := hb4.trans (hb5.mono hb4.size)
      dsimp only
      refine hK.out _ _ hS5 (fun _ => ?_)
      clear hK K
      try simp only [Act.put, List.setIfInBounds_toArray, List.set_cons_zero, List.set_cons_succ]
      refine wpAnyH_quiet_tail 13 (by rfl) (by kernel_rfl) (by kernel_rfl) hS5 ?_
      simp only [List.drop_succ_cons, List.drop_zero]
      repeat (first
        | go_big_quiet_skip
        | (go_big_quiet_want
           refine quiet_of_run (v := ?_) (fun w' hw' => ?_) ?_
           rotate_left
           · (go_simp; try with_reducible rfl)
           go_big_quiet_on
           try simp only [Act.put, List.setIfInBounds_toArray, List.set_cons_zero, List.set_cons_succ]))
      refine wpQuiet_nil ?_
      intro wx hwx
      clear hS5
      have HB35 := lhid hwx
      obtain ⟨w5, hw5⟩ : ∃ w5, w5 = wx := ⟨_, rfl⟩
      subst hw5
      clear hwx hb4 hS0 hb5
      have HB15 : Hid (Below w2.heap.size w2 w5) := lhid (HB23.out.trans (HB35.out.mono HB23.out.size))
      have HB5 : Hid (Below w.heap.size w w5) := lhid (HB1.out.trans (HB15.out.mono HB1.out.size))
      cases b with
      | true =>
        go_wp2_with fail
        go_ret
        exact ⟨true, rfl, ⟨fun _ => ⟨a, rfl, ham, .inl ⟨by rw [HDA.out]; exact HQ.out, HAF.out.1 (by first | rfl | trivial)⟩⟩, fun _ => rfl⟩, HB5.out⟩
      | false =>
        have HNO : Hid (¬ (defAt g a ≠ r ∧ AftP f n R (a : Int) r)) := lhid (fun h9 => by have h8 := HAF.out.2 h9.2; cases h8)
        have HU5 := lhid (HFU.out.below HB5.out)
        have H5 := lhid (h.out.below HB5.out)
        have HF5 : Hid (FBox w5 (p1 + 1) (.slice FA g.regs.length ac) (.slice FB g.params.length bc) g.ret (.slice (some ⟨gi, o, none⟩) m dcap) (.slice E g.rows.length ecap)) := lhid (heap_keep HF1.out HB15.out)
        obtain ⟨p0, p1', p2, p3, p4⟩ := HF5.out.cells
        have HC5 : Hid (w5.cell? ⟨p1, 0, none⟩ = some (.pointer (some ⟨TB, 0, none⟩)) ∧ w5.cell? ⟨p1 + 2, 0, none⟩ = some (.int .i64 r)) := lhid ⟨(HB15.out.cell (cell_lt HC12.out.1)).trans HC12.out.1, (HB15.out.cell (cell_lt HC12.out.2)).trans HC12.out.2⟩
        have hmf : ∀ (fn : Fn) (first cap : Array Value) (w : World), (Instr.makeFunc fn first cap).run Try.prog w = .ok (.func fn first cap) w := fun _ _ _ _ => rfl
        go_wp2_with fail
        with_reducible refine (caught_any g _ _ _ _ (a : Int) w5 HU5 hrn hrl).mono ?_
        rintro e w6 ⟨v, rfl, hov, hb6⟩
        obtain ⟨KA, kc, rfl⟩ := own_shape hov
        have hkl : (caughtL g a).length ≤ 140737488355328 := by have h1 := caughtL_len g a; have h2 := hrl.out; omega
        have HRK : Hid (RdX Tru 1 NuE w6 (.slice KA (caughtL g a).length kc) (caughtL g a)) := lhid ((OwN.rd hov hkl).any fun _ _ => trivial)
        have H6 := lhid (H5.out.below hb6)
        have HC6 : Hid (w6.cell? ⟨p1, 0, none⟩ = some (.pointer (some ⟨TB, 0, none⟩)) ∧ w6.cell? ⟨p1 + 2, 0, none⟩ = some (.int .i64 r)) := lhid ⟨(hb6.cell (cell_lt HC5.out.1)).trans HC5.out.1, (hb6.cell (cell_lt HC5.out.2)).trans HC5.out.2⟩
        have HB6 : Hid (Below w.heap.size w w6) := lhid (HB5.out.trans (hb6.mono HB5.out.size))
        clear hov hb6 p0 p1' p2 p3 p4
        go_wp2_with fail
        with_reducible refine (has_ac f n R TB p1 (p1 + 2) (caughtL g a) KA kc r _ H6 hz HC6 HRK).mono ?_
        rintro e w7 ⟨b, rfl, hb, rfl⟩
        have HBB := lhid hb
        clear hb
        go_wp2_with fail
        go_ret
        refine ⟨b, rfl, ?_, HB6.out⟩
        rw [HBB.out]
        constructor
        · intro h9
          exact ⟨a, rfl, ham, .inr h9⟩
        · rintro ⟨a2, ha, _, h9⟩
          have e1 : a = a2 := by omega
          subst e1
          rcases h9 with h9 | h9
          · exact absurd h9 HNO.out
          · exact h9
end Go.Proofs.Ytoommeiiadobfaa
/- What is read and written by a well formed function are its registers; what the table tells is what the document asks: no program in this text. -/
namespace Go.Proofs.Ytoommeiiadobfaa
open Go
set_option linter.unusedVariables false
theorem chk_one {f : FuI} (h : chkN f = 0) {i : Nat} {x : InI} (hx : f.code[i]? = some x) : oneB f i x = true := by
 have hc := (chk_parts h).1
 unfold codeB at hc
 simp only [Bool.and_eq_true, decide_eq_true_eq] at hc
 have h1 := List.all_eq_true.1 hc.2 i (List.mem_range.2 (List.getElem?_eq_some_iff.1 hx).1)
 rw [hx] at h1
 exact h1
theorem us1_in {f : FuI} {s r u : Int} (h : mayB f.regs r s = true) (hu : u ∈ us1 s r) : 0 ≤ u ∧ u < f.regs.length := by
 unfold us1 at hu
 split at hu
 ·rename_i ht
  have e := List.mem_singleton.1 hu
  subst e
  unfold tkB at ht
  unfold mayB at h
  simp only [Bool.and_eq_true, Bool.not_eq_true', Bool.and_eq_false_iff, decide_eq_false_iff_not] at ht
  rw [ht.1, Bool.false_or] at h
  split at h
  ·rename_i e
   rcases ht.2 with h1 | h1
   ·omega
   ·rw [h] at h1; cases h1
  ·simp only [Bool.and_eq_true, decide_eq_true_eq] at h
   exact h.1
 ·cases hu
theorem args_in {rs : List Int} {l : List Int} (h : argsB rs l = true) : ∀ u ∈ l, 0 ≤ u ∧ u < rs.length := by
 intro u hu
 unfold argsB at h
 simp only [Bool.and_eq_true] at h
 have h1 := List.all_eq_true.1 h.2 u hu
 unfold inB at h1
 simpa using h1
theorem chk_uses {f : FuI} (h : chkN f = 0) {i : Nat} {x : InI} (hx : f.code[i]? = some x) : ∀ u ∈ usesI x, 0 ≤ u ∧ u < f.regs.length := by
 intro u hu
 have h1 := chk_one h hx
 unfold oneB at h1
 simp only [Bool.and_eq_true] at h1
 obtain ⟨⟨⟨⟨_, hk⟩, hr⟩, _⟩, _⟩ := h1
 cases hc : callsB x.op with
 | true =>
  unfold callsB at hc
  simp only [decide_eq_true_eq, List.mem_cons, List.not_mem_nil, or_false] at hc
  have hx6 : usesI x = x.args := by
   rcases hc with e | e | e | e <;> simp [usesI, rk, cA, cAB, e]
  rw [hx6] at hu
  unfold restB at hr
  rcases hc with e | e | e | e
  ·simp [e] at hr; exact args_in hr.2 u hu
  ·simp [e] at hr; exact args_in hr.1.2 u hu
  ·simp [e] at hr; exact args_in hr.1 u hu
  ·simp [e] at hr; exact args_in hr.2 u hu
 | false =>
  rw [uses_us x hc] at hu
  unfold kindsB at hk
  simp only [Bool.and_eq_true] at hk
  rcases List.mem_append.1 hu with hu | hu
  ·rcases List.mem_append.1 hu with hu | hu
   ·exact us1_in hk.1.1.2 hu
   ·exact us1_in hk.1.2 hu
  ·exact us1_in hk.2 hu
theorem rd_reg {f : FuI} (h : chkN f = 0) {r : Int} {a : Nat} (hr : Rd f r a) : 0 ≤ r ∧ r < f.regs.length := by
 obtain ⟨j, x, _, hx, hu⟩ := hr
 exact chk_uses h hx r hu
theorem pr_one {f : FuI} {r : Int} {st : List Int} {j : Nat} : PR f r st j ↔ ∃ a : Nat, (a : Int) ∈ st ∧ a < f.code.length ∧ PR f r [(a : Int)] j := by
 constructor
 ·intro h
  induction h with
  | @first j hm hl => exact ⟨j, hm, hl, .first (List.mem_singleton.2 rfl) hl⟩
  | step _ hx hm hl ih =>
   obtain ⟨a, h1, h2, h3⟩ := ih
   exact ⟨a, h1, h2, .step h3 hx hm hl⟩
 ·rintro ⟨a, h1, h2, h3⟩
  induction h3 with
  | @first j hm hl =>
   have e := List.mem_singleton.1 hm
   rw [← e] at h1
   exact .first h1 hl
  | step _ hx hm hl ih => exact .step ih hx hm hl
theorem rds_one {f : FuI} {r : Int} {st : List Int} : RdS f r st ↔ ∃ a : Nat, (a : Int) ∈ st ∧ a < f.code.length ∧ Rd f r a := by
 constructor
 ·rintro ⟨j, x, hx, hu, hp⟩
  obtain ⟨a, h1, h2, h3⟩ := pr_one.1 hp
  exact ⟨a, h1, h2, j, x, h3, hx, hu⟩
 ·rintro ⟨a, h1, h2, j, x, h3, hx, hu⟩
  exact ⟨j, x, hx, hu, pr_one.2 ⟨a, h1, h2, h3⟩⟩
theorem bef_iff {f : FuI} {n R : Nat} (h : chkN f = 0) (hn : f.code.length = n) (hR : f.regs.length = R) (i r : Int) : BefP f n R i r ↔ InR n R i r ∧ RdS f r [i] := by
 rw [rds_one]
 constructor
 ·rintro ⟨a, b, ha, hb, han, _, hr⟩
  have h1 := rd_reg h hr
  exact ⟨⟨⟨by omega, by omega⟩, ⟨by omega, by omega⟩⟩, a, by rw [ha]; exact List.mem_singleton.2 rfl, by omega, hr⟩
 ·rintro ⟨⟨⟨h1, h2⟩, h3, h4⟩, a, hm, hl, hr⟩
  have e := List.mem_singleton.1 hm
  exact ⟨a, r.toNat, e.symm, by omega, by omega, by omega, hr⟩
end Go.Proofs.Ytoommeiiadobfaa
/- Law 13's own example: one register is read, one isn't yet. -/
namespace Go.Proofs.Ytoommeiiadobfaa
open Go.RowKit Go
set_option linter.unusedVariables false
set_option linter.unusedSimpArgs false
abbrev k0 : InI := ⟨1, 0, 0, 0, 0, 0, 0, [], []⟩
abbrev k1 : InI := ⟨1, 1, 0, 0, 0, 0, 0, [], []⟩
abbrev k2 : InI := ⟨28, 0, 0, 1, 0, 0, 0, [], []⟩
abbrev k3 : InI := ⟨30, 0, -1, 0, 0, 0, 0, [], []⟩
abbrev F4 : FuI := ⟨[1, 1], [], 0, [k0, k1, k2, k3], []⟩
abbrev F0 : FuI := ⟨[], [], 0, [], []⟩
theorem chk_F4 : chkN F4 = 0 := by decide +kernel
theorem chk_F0 : chkN F0 ≠ 0 := by decide +kernel
theorem fq_F4 : FuQ F4 := ⟨fun x hx => by
  simp at hx
  rcases hx with rfl | rfl | rfl | rfl <;> (unfold I64; decide), fun x hx => by
  simp at hx
  rcases hx with rfl | rfl | rfl | rfl <;> simp⟩
theorem fq_F0 : FuQ F0 := ⟨fun x hx => (by cases hx), fun x hx => (by cases hx)⟩
theorem pr_stay {f : FuI} {r : Int} {a j : Nat} (h : PR f r [(a : Int)] j) (hs : ∀ y, f.code[a]? = some y → sucL f r a y = []) : j = a := by
 induction h with
 | first hm hl => exact Int.ofNat.inj (List.mem_singleton.1 hm)
 | step _ hx hm hl ih =>
  subst ih
  rw [hs _ hx] at hm
  cases hm
theorem aft00 : AftP F4 4 2 0 0 := ⟨0, rfl, by decide, 1, by decide +kernel, 1, 0, rfl, rfl, by decide, by decide, 2, k2, .step (i := 1) (x := k1) (.first (by decide) (by decide)) rfl (by decide +kernel) (by decide), rfl, by decide⟩
theorem nrd11 : ¬ Rd F4 1 1 := by
 rintro ⟨j, x, hp, hx, hu⟩
 have e := pr_stay hp (fun y hy => by
  have e : y = k1 := by injection hy with hy; exact hy.symm
  subst e
  decide +kernel)
 subst e
 have e : x = k1 := by injection hx with hx; exact hx.symm
 subst e
 exact absurd hu (by decide)
theorem nrd00 : ¬ Rd F4 0 0 := by
 rintro ⟨j, x, hp, hx, hu⟩
 have e := pr_stay hp (fun y hy => by
  have e : y = k0 := by injection hy with hy; exact hy.symm
  subst e
  decide +kernel)
 subst e
 have e : x = k0 := by injection hx with hx; exact hx.symm
 subst e
 exact absurd hu (by decide)
theorem naft01 : ¬ AftP F4 4 2 0 1 := by
 rintro ⟨a, ha, _, z, hz, b, c, hb, hc, _, _, hr⟩
 have e : a = 0 := by omega
 subst e
 have e2 : nextL F4 ((0 : Nat) : Int) = [1] := by decide +kernel
 rw [e2] at hz
 have e3 := List.mem_singleton.1 hz
 have e4 : b = 1 := by omega
 subst e4
 exact nrd11 hr
theorem bef21 : BefP F4 4 2 2 1 := ⟨2, 1, rfl, rfl, by decide, by decide, 2, k2, .first (by decide) (by decide), rfl, by decide⟩
theorem nbef00 : ¬ BefP F4 4 2 0 0 := by
 rintro ⟨b, c, hb, hc, _, _, hr⟩
 have e4 : b = 0 := by omega
 subst e4
 exact nrd00 hr
theorem acr10 : AcrP F4 F4 4 4 2 1 0 := ⟨1, rfl, by decide, .inl ⟨by decide, 1, rfl, by decide, 2, by decide +kernel, 2, 0, rfl, rfl, by decide, by decide, 2, k2, .first (by decide) (by decide), rfl, by decide⟩⟩
theorem nacr11 : ¬ AcrP F4 F4 4 4 2 1 1 := by
 rintro ⟨a, ha, _, ⟨hd, _⟩ | ⟨z, hz, _⟩⟩
 ·have e : a = 1 := by omega
  subst e
  exact hd (by decide)
 ·have e : a = 1 := by omega
  subst e
  have e2 : caughtL F4 ((1 : Nat) : Int) = [] := by decide +kernel
  rw [e2] at hz
  cases hz
theorem inq_F4 : ∀ x ∈ F4.code, I64 (defI x) ∧ (∀ u ∈ usesI x, I64 u) ∧ x.args.length * 8 ≤ 140737488355328 ∧ (usesI x).length * 8 ≤ 140737488355328 := by
 intro x hx
 simp at hx
 rcases hx with rfl | rfl | rfl | rfl <;> (unfold I64; decide +kernel)
theorem OfOut.tab {f : FuI} {n R : Nat} {w : World} {e : Ending} {w' : World} (h : OfOut f n R w e w') (hc : chkN f = 0) : Below w.heap.size w w' ∧ ∃ TB : Nat, e = .returned (.pointer (some ⟨TB, 0, none⟩)) ∧ TabM f n R w' TB := by
 refine ⟨h.1, ?_⟩
 rcases h.2 with ⟨h1, _⟩ | ⟨_, TB, NA, nc, u, L, h2, h3, h4, h5, h6, h7⟩
 ·exact absurd hc h1
 ·exact ⟨TB, h2, NA, nc, u, L, h3, h4, h5, h6, h7⟩
theorem OfOut.nil {f : FuI} {n R : Nat} {w : World} {e : Ending} {w' : World} (h : OfOut f n R w e w') (hc : chkN f ≠ 0) : Below w.heap.size w w' ∧ e = .returned (.pointer none) := by
 refine ⟨h.1, ?_⟩
 rcases h.2 with ⟨_, h1⟩ | ⟨h1, _⟩
 ·exact h1
 ·exact absurd h1 hc
set_option maxHeartbeats 16000000 in
set_option maxRecDepth 100000 in
theorem holds13_any (w : World) : Calls Try.prog 7 #[] w fun e w' => e = .returned (.bool true) ∧ Below w.heap.size w w' := by
 go_enter Try.func7, Try.ntmps7
 go_upto_region 2 with fail
 generalize hW : World.alloc _ _ = w1
 obtain ⟨B0, hB0⟩ : ∃ B0, B0 = w.heap.size := ⟨_, rfl⟩
 try rw [← hB0]
 try rw [hB0] at hW
 have hb1 : Below w.heap.size w w1 := by rw [← hW]; exact (((Below.refl _ _).alloc (Nat.le_refl _) _).alloc (by simp) _).alloc (by simp; omega) _
 have hr1 : RdX Tru 1 NuE w1 (.slice (some ⟨B0, 0, none⟩) 2 2) [1, 1] := by
  rw [← hW, hB0]
  have h0 := (OwN.rd (l := [1, 1]) (World.ownsRow_lit (e := 3) (size := 1) (base := w.heap.size) w #[Value.int .i64 1, Value.int .i64 1] 2 (Nat.le_refl _) (by decide) rfl) (by simp)).any (Q := Tru) (fun _ _ => trivial)
  exact (h0.below (keptX_nu _) ((Below.refl _ _).alloc (Nat.le_refl _) _)).below (keptX_nu _) ((Below.refl _ _).alloc (Nat.le_refl _) _)
 have hg1 : w1.heap[B0 + 1]? = some (.cells ([k0, k1, k2, k3].flatMap bareC).toArray 35 (0, 0)) := by
  rw [← hW, hB0]
  exact (Below.heap_alloc _ _ _ (by simp)).trans (heap_new2 w _ _)
 have hF1 : FBox w1 (B0 + 1 + 1) (.slice (some ⟨B0, 0, none⟩) 2 2) (.slice none 0 0) 0 (.slice (some ⟨B0 + 1, 0, none⟩) 4 4) (.slice none 0 0) := by
  rw [← hW, hB0]
  exact heap_alloc_new' _ _ _ (by simp)
 have HU1 : Hid (FuV Tru w1 F4 (.slice (some ⟨B0, 0, none⟩) 2 2) (.slice none 0 0) (.slice (some ⟨B0 + 1, 0, none⟩) 4 4) (.slice none 0 0)) := lhid ⟨hr1, rdX_nil _ _ _ _ _ _ (fun _ => rfl), bare_rd (l := [k0, k1, k2, k3]) (by simp) hg1 (by simp), rdX_nil _ _ _ _ _ _ (fun _ => rfl)⟩
 have HB1 := lhid hb1
 have HF1 := lhid hF1
 obtain ⟨p0, p1, p2, p3, p4⟩ := hF1.cells
 clear hW hb1 hr1 hg1 hF1 hB0
 go_wp2_with fail
 with_reducible refine (of_any F4 4 2 rfl rfl _ _ _ _ w1 HU1 (lhid fq_F4) nil_cap (lhid (by decide)) (lhid rwn_nil) (lhid (by decide)) (lhid inq_F4)).mono ?_
 rintro e w2 hof
 obtain ⟨hb2, TB, rfl, ht⟩ := hof.tab chk_F4
 have HT2 := lhid ht
 have HB2 := lhid hb2
 have HZS : Hid (2 ≤ 20000 ∧ 4 ≤ 20000) := lhid (by decide)
 clear hof ht hb2 p0 p1 p2 p3 p4
 go_wp2_with fail
 with_reducible refine (after_c F4 4 2 TB 0 0 w2 HT2 HZS).mono ?_
 rintro e w3 ⟨b, rfl, hbb, hb3⟩
 have hbt : b = true := hbb.2 aft00
 subst hbt
 have HT3 := lhid (HT2.out.below hb3)
 have HB3 : Hid (Below w1.heap.size w1 w3) := lhid (HB2.out.trans (hb3.mono HB2.out.size))
 clear hbb hb3
 go_wp2_with fail
 with_reducible refine (after_c F4 4 2 TB 0 1 w3 HT3 HZS).mono ?_
 rintro e w4 ⟨b, rfl, hbb, hb3⟩
 have hbt : b = false := Bool.eq_false_iff.2 (fun h => naft01 (hbb.1 h))
 subst hbt
 have HT4 := lhid (HT3.out.below hb3)
 have HB4 : Hid (Below w1.heap.size w1 w4) := lhid (HB3.out.trans (hb3.mono HB3.out.size))
 clear hbb hb3
 go_wp2_with fail
 with_reducible refine (before_c F4 4 2 TB 2 1 w4 HT4 HZS).mono ?_
 rintro e w5 ⟨b, rfl, hbb, hww⟩
 subst hww
 have hbt : b = true := hbb.2 bef21
 subst hbt
 clear hbb
 go_wp2_with fail
 with_reducible refine (before_c F4 4 2 TB 0 0 w5 HT4 HZS).mono ?_
 rintro e w6 ⟨b, rfl, hbb, hww⟩
 subst hww
 have hbt : b = false := Bool.eq_false_iff.2 (fun h => nbef00 (hbb.1 h))
 subst hbt
 have hF6 : FBox w6 (B0 + 1 + 1) (.slice (some ⟨B0, 0, none⟩) 2 2) (.slice none 0 0) 0 (.slice (some ⟨B0 + 1, 0, none⟩) 4 4) (.slice none 0 0) := heap_keep HF1.out HB4.out
 obtain ⟨p0, p1, p2, p3, p4⟩ := hF6.cells
 have HU6 := lhid (HU1.out.below HB4.out)
 clear hbb hF6
 go_wp2_with fail
 with_reducible refine (across_c F4 F4 4 4 2 TB rfl _ _ _ _ 1 0 w6 HT4 HZS HU6 (lhid rwn_nil) (lhid (by decide))).mono ?_
 rintro e w7 ⟨b, rfl, hbb, hb3⟩
 have hbt : b = true := hbb.2 acr10
 subst hbt
 have HT7 := lhid (HT4.out.below hb3)
 have HB7 : Hid (Below w1.heap.size w1 w7) := lhid (HB4.out.trans (hb3.mono HB4.out.size))
 have hF7 : FBox w7 (B0 + 1 + 1) (.slice (some ⟨B0, 0, none⟩) 2 2) (.slice none 0 0) 0 (.slice (some ⟨B0 + 1, 0, none⟩) 4 4) (.slice none 0 0) := heap_keep HF1.out HB7.out
 clear p0 p1 p2 p3 p4
 obtain ⟨p0, p1, p2, p3, p4⟩ := hF7.cells
 have HU7 := lhid (HU1.out.below HB7.out)
 clear hbb hF7 hb3
 go_wp2_with fail
 with_reducible refine (across_c F4 F4 4 4 2 TB rfl _ _ _ _ 1 1 w7 HT7 HZS HU7 (lhid rwn_nil) (lhid (by decide))).mono ?_
 rintro e w8 ⟨b, rfl, hbb, hb3⟩
 have hbt : b = false := Bool.eq_false_iff.2 (fun h => nacr11 (hbb.1 h))
 subst hbt
 have HB8 : Hid (Below w1.heap.size w1 w8) := lhid (HB7.out.trans (hb3.mono HB7.out.size))
 clear hbb hb3 p0 p1 p2 p3 p4
 have HU8 : Hid (FuV Tru w8 F0 (.slice none 0 0) (.slice none 0 0) (.slice none 0 0) (.slice none 0 0)) := lhid ⟨rdX_nil _ _ _ _ _ _ (fun _ => rfl), rdX_nil _ _ _ _ _ _ (fun _ => rfl), rdX_nil _ _ _ _ _ _ (fun _ => rfl), rdX_nil _ _ _ _ _ _ (fun _ => rfl)⟩
 go_wp2_with fail
 with_reducible refine (of_any F0 0 0 rfl rfl _ _ _ _ w8 HU8 (lhid fq_F0) nil_cap (lhid (by decide)) (lhid rwn_nil) (lhid (by decide)) (lhid (fun x hx => absurd hx (by simp)))).mono ?_
 rintro e w9 hof
 obtain ⟨hb9, rfl⟩ := hof.nil chk_F0
 have HB9 : Hid (Below w.heap.size w w9) := lhid (HB1.out.trans ((HB8.out.trans (hb9.mono HB8.out.size)).mono HB1.out.size))
 clear hof hb9
 go_wp2_with fail
 go_ret
 exact ⟨rfl, HB9.out⟩
end Go.Proofs.Ytoommeiiadobfaa
/- LiveSet: the law walked. -/
namespace Go.Proofs.Ytoommeiiadobfaa
open Go.RowKit Go
set_option linter.unusedVariables false
set_option linter.unusedSimpArgs false
theorem zero_int2 (w : World) : (zeroValue 3).run Try.prog w = .ok (.int .i64 0) w := by kernel_rfl
theorem bool_of2 {b c : Bool} {P : Prop} (h : b = true ↔ P) (k : c = true ↔ P) : c = b := by rw [Bool.eq_iff_iff]; exact k.trans h.symm
theorem set_n2 {R : Nat} (f : FuI) (n : Nat) (hn : f.code.length = n) (hR : f.regs.length = R) (fa fb fd fe : Value) (w : World) (h : Hid (FuV Tru w f fa fb fd fe)) (hq : Hid (FuQ f)) (hcap : Hid (∀ A n cap, fb = .slice A n cap → n ≤ cap ∧ cap ≤ maxLen)) (hcl : Hid ((f.code.length + 1) * 1024 ≤ 140737488355328)) (hrn : Hid (RwN f.rows)) (hrl : Hid (f.rows.length * 8 ≤ 140737488355328)) (hI : Hid (∀ x ∈ f.code, I64 (defI x) ∧ (∀ u ∈ usesI x, I64 u) ∧ x.args.length * 8 ≤ 140737488355328 ∧ (usesI x).length * 8 ≤ 140737488355328)) :
  Calls Try.prog 19 #[fuL fa fb f.ret fd fe] w fun e w' => SetOut f w e w' := set_any f fa fb fd fe w h hq hcap hcl hrn hrl hI
theorem set_iff {f : FuI} {n R : Nat} (h : chkN f = 0) (hn : f.code.length = n) (hR : f.regs.length = R) : SetN f ↔ ∀ r : Nat, r < R → ((r : Int) ∈ f.params ∨ ¬ BefP f n R 0 r) := by
 have hn1 : 1 ≤ f.code.length := by
  have hc := (chk_parts h).1
  unfold codeB at hc
  simp only [Bool.and_eq_true, decide_eq_true_eq] at hc
  exact hc.1.1.1
 have key : ∀ r : Nat, BefP f n R 0 r ↔ ∃ i x, f.code[i]? = some x ∧ (r : Int) ∈ usesI x ∧ UnR f (r : Int) i := fun r => by
  rw [bef_iff h hn hR]
  constructor
  ·rintro ⟨_, j, x, hx, hu, hp⟩
   exact ⟨j, x, hx, hu, (unr_pr j).2 hp⟩
  ·rintro ⟨j, x, hx, hu, hp⟩
   have h1 := chk_uses h hx _ hu
   exact ⟨⟨⟨by omega, by omega⟩, ⟨by omega, by omega⟩⟩, j, x, hx, hu, (unr_pr j).1 hp⟩
 unfold SetN
 constructor
 ·rintro ⟨_, h1⟩ r hr
  by_cases hm : (r : Int) ∈ f.params
  ·exact .inl hm
  ·exact .inr fun hb => h1 r (by omega) ⟨hm, (key r).1 hb⟩
 ·intro h1
  refine ⟨h, fun r hr hu => ?_⟩
  rcases h1 r (by omega) with h2 | h2
  ·exact hu.1 h2
  ·exact h2 ((key r).2 hu.2)
set_option maxHeartbeats 32000000 in
set_option maxRecDepth 100000 in
theorem LiveSet_walk (f : FuI) (fa fb fd fe : Value) (w : World) (h : Hid (FuV Tru w f fa fb fd fe)) (hq : Hid (FuQ f)) (hcap : Hid (∀ A n cap, fb = .slice A n cap → n ≤ cap ∧ cap ≤ maxLen)) (hrn : Hid (RwN f.rows)) (hrl : Hid (f.rows.length * 8 ≤ 140737488355328)) (hI : Hid (∀ x ∈ f.code, I64 (defI x) ∧ (∀ u ∈ usesI x, I64 u) ∧ x.args.length * 8 ≤ 140737488355328 ∧ (usesI x).length * 8 ≤ 140737488355328)) :
  Calls Try.prog 5 #[fuL fa fb f.ret fd fe] w fun e w' => e = .returned (.bool true) ∧ Below w.heap.size w w' := by
 obtain ⟨FA, ac, hFA⟩ := h.out.a.shape
 subst hFA
 obtain ⟨FB, bc, hFB⟩ := h.out.b.shape
 subst hFB
 obtain ⟨D, dcap, hD⟩ := h.out.d.shape
 subst hD
 obtain ⟨E, ecap, hE⟩ := h.out.e.shape
 subst hE
 obtain ⟨n, hn⟩ : ∃ n, f.code.length = n := ⟨_, rfl⟩
 obtain ⟨R, hR⟩ : ∃ R, f.regs.length = R := ⟨_, rfl⟩
 have HN := lhid hn
 have HR := lhid hR
 have hf2 := h.out
 rw [hn, hR] at hf2 ⊢
 have HFU := lhid hf2
 clear hn hR hf2 h
 go_enter Try.func5, Try.ntmps5
 go_wp2_with fail
 generalize hW : World.alloc _ _ = w0
 obtain ⟨B0, hB0⟩ : ∃ B0, B0 = w.heap.size := ⟨_, rfl⟩
 rw [← hB0]
 have hb0 : Below w.heap.size w w0 := by rw [← hW]; exact (Below.refl _ _).alloc (Nat.le_refl _) _
 have hF0 : FBox w0 B0 (.slice FA R ac) (.slice FB f.params.length bc) f.ret (.slice D n dcap) (.slice E f.rows.length ecap) := by rw [← hW, hB0]; exact heap_alloc_new w _
 have HF0 := lhid hF0
 have HB0 := lhid hb0
 clear hW hb0 hF0 hB0
 with_reducible refine (holds13_any w0).mono ?_
 rintro e w1 ⟨rfl, hb⟩
 have hF1 : FBox w1 B0 (.slice FA R ac) (.slice FB f.params.length bc) f.ret (.slice D n dcap) (.slice E f.rows.length ecap) := heap_keep HF0.out hb
 have HB1 : Hid (Below w.heap.size w w1) := lhid (HB0.out.trans (hb.mono HB0.out.size))
 have HU1 := lhid (HFU.out.below HB1.out)
 have HG : Hid (∀ w' : World, Below w1.heap.size w1 w' → w'.cell? ⟨B0, 0, none⟩ = some (.slice FA R ac) ∧ w'.cell? ⟨B0, 1, none⟩ = some (.slice FB f.params.length bc) ∧ w'.cell? ⟨B0, 2, none⟩ = some (.int .i64 f.ret) ∧ w'.cell? ⟨B0, 3, none⟩ = some (.slice D n dcap) ∧ w'.cell? ⟨B0, 4, none⟩ = some (.slice E f.rows.length ecap)) := lhid (fun w' hw' => by
  have k1 : FBox w' B0 (.slice FA R ac) (.slice FB f.params.length bc) f.ret (.slice D n dcap) (.slice E f.rows.length ecap) := heap_keep hF1 hw'
  exact k1.cells)
 obtain ⟨p0, p1, p2, p3, p4⟩ := hF1.cells
 clear hb hF1 HF0 HB0
 by_cases h400 : (400 : Int) < n
 ·go_wp2_with fail
  go_ret
  exact ⟨rfl, HB1.out⟩
 ·by_cases h60 : (60 : Int) < R
  ·go_wp2_with fail
   go_ret
   exact ⟨rfl, HB1.out⟩
  ·obtain ⟨c, hc⟩ : ∃ c, chkN f = c := ⟨_, rfl⟩
   have HC := lhid hc
   clear hc
   go_wp2_with fail
   with_reducible refine (rcheck_r f _ _ _ _ c w1 HU1 hq hcap HC).mono ?_
   rintro e w2 ⟨rfl, hb2⟩
   have HB2 := lhid hb2
   have HCL : Hid ((f.code.length + 1) * 1024 ≤ 140737488355328) := lhid (by have := HN.out; omega)
   have HSM : Hid (n ≤ 400 ∧ R ≤ 60) := lhid (by omega)
   clear p0 p1 p2 p3 p4 hb2
   obtain ⟨p0, p1, p2, p3, p4⟩ := HG.out w2 HB2.out
   by_cases hck : c = 0
   ·subst hck
    have HZS : Hid (R ≤ 20000 ∧ n ≤ 20000) := lhid (by have := HSM.out; omega)
    have HRL : Hid (f.rows.length * 8 ≤ 140737488355328) := lhid hrl.out
    go_wp2_with fail
    clear h400 h60
    with_reducible refine (of_any f n R HN.out HR.out _ _ _ _ w2 (lhid (HU1.out.below HB2.out)) hq hcap HCL hrn HRL hI).mono ?_
    rintro e w3 hof
    obtain ⟨hb3, TB, rfl, ht⟩ := hof.tab HC.out
    have HT3 := lhid ht
    have HB3 : Hid (Below w1.heap.size w1 w3) := lhid (HB2.out.trans (hb3.mono HB2.out.size))
    have hmm := @run_makeMap Try.prog
    clear hof ht hb3 p0 p1 p2 p3 p4
    go_upto_region 7 with fail
    generalize hW : World.alloc _ _ = w4
    obtain ⟨mb, hmb⟩ : ∃ mb, mb = w3.heap.size := ⟨_, rfl⟩
    try rw [← hmb]
    have hb4 : Below w3.heap.size w3 w4 := by rw [← hW]; exact (Below.refl _ _).alloc (Nat.le_refl _) _
    have HM4 : Hid (MI w4 mb 0 (mapH [])) := lhid (by rw [← hW, hmb]; exact (mi_made w3).ext (fun s => by simp [mapH]))
    have HB4 : Hid (Below w1.heap.size w1 w4) := lhid (HB3.out.trans (hb4.mono HB3.out.size))
    have HB34 := lhid hb4
    have HNUM : Hid (mb = w3.heap.size ∧ mb < w4.heap.size) := lhid ⟨hmb, HM4.out.lt⟩
    have HU4 := lhid (HU1.out.below HB4.out)
    obtain ⟨p0, p1, p2, p3, p4⟩ := HG.out w4 HB4.out
    clear hW hmb hb4 hmm
    go_wp2_with fail
    clear p0 p1 p2 p3 p4
    have HPL : Hid (f.params.length ≤ 140737488355328) := lhid HU1.out.b.len
    go_loopg [32] f.params.length (fun g s wr => ∃ k : Nat, g = f.params.length - k ∧ s = .int .i64 k ∧ k ≤ f.params.length ∧ Hid (Ch (fun b => b = mb) w4 wr) ∧ Hid (MI wr mb k (mapH (f.params.take k))))
    case atStart => exact ⟨0, rfl, rfl, Nat.zero_le _, lhid (Ch.refl _ _), HM4⟩
    case round =>
     clear HM4
     obtain ⟨k, rfl, rfl, hk, HCh, HM⟩ := hrel
     by_cases hlt : k < f.params.length
     ·as_aux_lemma =>
       have k3 : (k : Int) < f.params.length := by omega
       have hwk : wrap64 ((k : Int) + 1) = ((k + 1 : Nat) : Int) := by rw [IntWalk.wrap64_in _ (by have := HPL.out; omega)]; omega
       obtain ⟨x, hx⟩ : ∃ x, f.params[k]? = some x := ⟨_, List.getElem?_eq_getElem hlt⟩
       have hBw : Below w1.heap.size w1 wr := HB4.out.trans (HCh.out.to HB4.out.size (fun b e => by have h1 := HNUM.out; have h2 := HB3.out.size; omega))
       obtain ⟨gp, op, hPA, c0⟩ := nu_cell (HU1.out.below hBw).b hx
       subst hPA
       have HX := lhid hx
       have HI6 : Hid (I6 x) := lhid (by have h1 := (chk_sizes HC.out).2.2 x (List.mem_of_getElem? hx); have h2 := HR.out; have h3 := HSM.out; exact ⟨by omega, by omega⟩)
       have HMS : Hid (f.params.length - (k + 1) < f.params.length - k ∧ k + 1 ≤ f.params.length ∧ k < maxLen) := lhid ⟨by omega, by omega, by have := HPL.out; unfold maxLen; omega⟩
       clear hx hBw
       go_wp2_with (refine wpList_put_mi _ rfl (.tmp 36) (.tmp 37) (.const (.int .i64 1)) 37 rfl 3 Try.underlying37 mb k (mapH (f.params.take k)) rfl HM.out ?m1 x rfl HI6.out (.int .i64 1) rfl ?_)
       case m1 => exact HMS.out.2.2
       intro w6 hm6 hg6 hs6
       have HM6 : Hid (MI w6 mb (k + 1) (mapH (f.params.take (k + 1)))) := lhid (hm6.ext (fun s => by rw [take_snoc HX.out]; exact mapH_snoc _ _ _))
       have HCh6 : Hid (Ch (fun b => b = mb) w4 w6) := lhid (HCh.out.grown hg6 (fun b e _ => by injection e with e; exact e.symm))
       clear hm6 hg6 hs6 c0
       go_wp2_with fail
       go_roundg (f.params.length - (k + 1))
       case measure => exact HMS.out.1
       case rel => exact ⟨k + 1, rfl, by first | rfl | rw [hwk], HMS.out.2.1, HCh6, HM6⟩
     ·have k3 : ¬ (k : Int) < f.params.length := by omega
      have hke : k = f.params.length := by omega
      subst hke
      obtain ⟨w7, hw7⟩ : ∃ x, x = wr := ⟨_, rfl⟩
      subst hw7
      have hM7 := HM.out
      rw [List.take_length] at hM7
      have HM7 := lhid hM7
      have HB7 : Hid (Below w1.heap.size w1 w7) := lhid (HB4.out.trans (HCh.out.to HB4.out.size (fun b e => by have h1 := HNUM.out; have h2 := HB3.out.size; omega)))
      have HT7 : Hid (TabM f n R w7 TB) := lhid (HT3.out.below (HB34.out.trans (HCh.out.to HB34.out.size (fun b e => by have h1 := HNUM.out; omega))))
      obtain ⟨p0, p1, p2, p3, p4⟩ := HG.out w7 HB7.out
      clear hM7 HM hk hlt k3
      go_wp2_with fail
      clear p0 p1 p2 p3 p4
      go_loopg [7, 42] R (fun g v s wr => ∃ (k : Nat) (b : Bool), g = R - k ∧ v = .bool b ∧ s = .int .i64 k ∧ k ≤ R ∧ wr = w7 ∧ Hid (b = true ↔ ∀ r : Nat, r < k → ((r : Int) ∈ f.params ∨ ¬ BefP f n R 0 r)))
      case atStart => exact ⟨0, true, rfl, rfl, rfl, Nat.zero_le _, rfl, lhid ⟨fun _ r hr => by omega, fun _ => rfl⟩⟩
      case round =>
       obtain ⟨k, b, rfl, rfl, rfl, hk, rfl, HB⟩ := hrel
       by_cases hlt : k < R
       ·as_aux_lemma =>
         have k3 : (k : Int) < R := by omega
         have hwk : wrap64 ((k : Int) + 1) = ((k + 1 : Nat) : Int) := by rw [IntWalk.wrap64_in _ (by have := HSM.out; omega)]; omega
         have HMS : Hid (R - (k + 1) < R - k ∧ k + 1 ≤ R) := lhid (by omega)
         have hsI : I6 (k : Int) := ⟨by omega, by have := HSM.out; omega⟩
         cases b with
         | false =>
          have HB' : Hid (false = true ↔ ∀ r : Nat, r < k + 1 → ((r : Int) ∈ f.params ∨ ¬ BefP f n R 0 r)) := lhid ⟨fun h => (by cases h), fun h => HB.out.2 (fun r hr => h r (by omega))⟩
          go_wp2_with fail
          go_roundg (R - (k + 1))
          case measure => exact HMS.out.1
          case rel => exact ⟨k + 1, false, rfl, rfl, by first | rfl | rw [hwk], HMS.out.2, rfl, HB'⟩
         | true =>
          have hlook := (HM7.out.look Try.underlying37 (zero_int2 wr) hsI).1
          by_cases hm : (k : Int) ∈ f.params
          ·have h2 : (mapH f.params (k : Int)).getD (.int .i64 0) = .int .i64 1 := by unfold mapH; rw [if_pos hm]; rfl
           rw [h2] at hlook
           have HB' : Hid (true = true ↔ ∀ r : Nat, r < k + 1 → ((r : Int) ∈ f.params ∨ ¬ BefP f n R 0 r)) := lhid ⟨fun _ r hr => (by
            by_cases e : r = k
            ·subst e; exact .inl hm
            ·exact HB.out.1 (by first | rfl | trivial) r (by omega)), fun _ => rfl⟩
           clear h2 hm
           go_wp2_with fail
           go_roundg (R - (k + 1))
           case measure => exact HMS.out.1
           case rel => exact ⟨k + 1, true, rfl, rfl, by first | rfl | rw [hwk], HMS.out.2, rfl, lhid (by simpa using HB'.out)⟩
          ·have h2 : (mapH f.params (k : Int)).getD (.int .i64 0) = .int .i64 0 := by unfold mapH; rw [if_neg hm]; rfl
           rw [h2] at hlook
           have HM := lhid hm
           clear h2 hm
           go_wp2_with fail
           with_reducible refine (before_c f n R TB 0 k wr HT7 HZS).mono ?_
           rintro e wz ⟨z, rfl, hz, rfl⟩
           have HZ : Hid ((!z) = true ↔ ∀ r : Nat, r < k + 1 → ((r : Int) ∈ f.params ∨ ¬ BefP f n R 0 r)) := lhid (by
            have hz2 : z = true ↔ BefP f n R 0 k := hz
            rw [Bool.not_eq_true', ← Bool.not_eq_true, hz2]
            constructor
            ·intro h r hr
             by_cases e : r = k
             ·subst e; exact .inr h
             ·exact HB.out.1 (by first | rfl | trivial) r (by omega)
            ·intro h
             rcases h k (by omega) with h3 | h3
             ·exact absurd h3 HM.out
             ·exact h3)
           clear hz
           go_wp2_with fail
           go_roundg (R - (k + 1))
           case measure => exact HMS.out.1
           case rel => exact ⟨k + 1, !z, rfl, rfl, by first | rfl | rw [hwk], HMS.out.2, rfl, HZ⟩
       ·have k3 : ¬ (k : Int) < R := by omega
        have hke : k = R := by omega
        subst hke
        have HBS : Hid (b = true ↔ SetN f) := lhid (HB.out.trans (set_iff HC.out HN.out HR.out).symm)
        obtain ⟨p0, p1, p2, p3, p4⟩ := HG.out wr HB7.out
        go_wp2_with fail
        with_reducible refine (set_n2 f n HN.out HR.out _ _ _ _ wr (lhid (HU1.out.below HB7.out)) hq hcap HCL hrn HRL hI).mono ?_
        rintro e w9 ⟨z, rfl, hz, hb9⟩
        have hzb : z = b := bool_of2 HBS.out hz
        subst hzb
        have hbq : (z == z) = true := by simp
        have HB9 : Hid (Below w1.heap.size w1 w9) := lhid (HB7.out.trans (hb9.mono HB7.out.size))
        clear hz hb9
        go_wp2_with fail
        go_ret
        exact ⟨by simp, HB1.out.trans (HB9.out.mono HB1.out.size)⟩
   ·have hc1 : (c != 0) = true := by simpa using hck
    go_wp2_with fail
    go_ret
    exact ⟨rfl, HB1.out.trans (HB2.out.mono HB1.out.size)⟩
end Go.Proofs.Ytoommeiiadobfaa
