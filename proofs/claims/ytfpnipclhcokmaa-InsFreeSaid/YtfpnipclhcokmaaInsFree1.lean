/- The walk of law 10's InsFree, begun. -/
import Derived.Test.YtfpnipclhcokmaaInsNeeds
import Derived.Test.YtfpnipclhcokmaaInsTells
import Derived.Deep.Cut
import Derived.Deep.CutRange
import Derived.Deep.RegionHeld3
namespace Go.Proofs.Ytfpnipclhcokmaa
open Go.RowKit Go
set_option linter.unusedVariables false
set_option linter.unusedSimpArgs false

theorem xset {w : World} {g : Nat} {c : Array Value} {T : TypeId} (h : w.heap[g]? = some (.cells c T (0, 0))) (i : Nat) (u : Value) {c' : Array Value} (hc : c.setIfInBounds i u = c') : (w.setCell ⟨g, i, none⟩ u).heap[g]? = some (.cells c' T (0, 0)) := by
  subst hc
  exact heap_set h u
/-- What stands in memory while the instruction w is put together. -/
structure FrM (w wc : World) (Y : Nat) (fa fb : Value) (ret : Int) (fd fe : Value) (y : InI) (yv : Value) (u : InI) (uv : Value) : Prop where
  b : Below w.heap.size w wc
  f : FBox wc w.heap.size fa fb ret fd fe
  y : XBox wc Y y.op y.dst y.a y.b y.c y.num y.too y.ref yv
  u : XBox wc (Y + 1) u.op u.dst u.a u.b u.c u.num u.too u.ref uv
  ny : w.heap.size + 2 ≤ Y
theorem FrM.st {w wc : World} {Y : Nat} {fa fb : Value} {ret : Int} {fd fe : Value} {y : InI} {yv : Value} {u : InI} {uv : Value} (h : FrM w wc Y fa fb ret fd fe y yv u uv) (i : Nat) (z : Value) (u' : InI) (uv' : Value)
    (hc : (#[Value.int .i64 u.op, .int .i64 u.dst, .int .i64 u.a, .int .i64 u.b, .int .i64 u.c, .int .i64 u.num, .int .i64 u.too, .string (tx u.ref), uv] : Array Value).setIfInBounds i z = #[.int .i64 u'.op, .int .i64 u'.dst, .int .i64 u'.a, .int .i64 u'.b, .int .i64 u'.c, .int .i64 u'.num, .int .i64 u'.too, .string (tx u'.ref), uv']) :
    FrM w (wc.setCell ⟨Y + 1, i, none⟩ z) Y fa fb ret fd fe y yv u' uv' :=
  ⟨h.b.setCell (by have := h.ny; show w.heap.size ≤ Y + 1; omega) z, (Below.heap_setCell _ _ _ _ (by have := h.ny; show w.heap.size ≠ Y + 1; omega)).trans h.f, (Below.heap_setCell _ _ _ _ (by show Y ≠ Y + 1; omega)).trans h.y, xset h.u i z hc, h.ny⟩
theorem FrM.below {w wc wd : World} {Y : Nat} {fa fb : Value} {ret : Int} {fd fe : Value} {y : InI} {yv : Value} {u : InI} {uv : Value} (h : FrM w wc Y fa fb ret fd fe y yv u uv) (hb : Below wc.heap.size wc wd) : FrM w wd Y fa fb ret fd fe y yv u uv :=
  ⟨h.b.trans (hb.mono h.b.size), heap_keep h.f hb, heap_keep h.y hb, heap_keep h.u hb, h.ny⟩
theorem at_lt (pos : Int) (n : Nat) (h0 : 0 < n) (h1 : n ≤ 400) : ∃ i : Nat, i < n ∧ (wrap64 (pos.tmod n + n)).tmod n = i := by
  have ha : -(n : Int) < pos.tmod n ∧ pos.tmod n < n := by
    constructor
    · have h1 := Int.natAbs_tmod pos n
      have h2 : pos.natAbs % (n : Int).natAbs < n := by rw [Int.natAbs_natCast]; exact Nat.mod_lt _ h0
      omega
    · exact Int.tmod_lt_of_pos _ (by omega)
  have hw : wrap64 (pos.tmod n + n) = pos.tmod n + n := IntWalk.wrap64_in _ (by omega)
  rw [hw]
  have hb := Int.tmod_lt_of_pos (pos.tmod n + n) (show (0 : Int) < n by omega)
  have hc := Int.tmod_nonneg (a := pos.tmod n + n) (n : Int) (by omega)
  exact ⟨((pos.tmod n + n).tmod n).toNat, by omega, by omega⟩
theorem rwrites_r (c : Int) (z : Bool) (w : World) (hz : Hid (wrB c = z)) : Calls Try.prog 30 #[.int .i64 c] w fun e w' => e = .returned (.bool z) ∧ Below w.heap.size w w' := by
  have := rwrites_any c w
  rwa [hz.out] at this
theorem rneeds_r (c : Int) (k : Nat) (w : World) (hk : Hid (needN c = k)) : Calls Try.prog 31 #[.int .i64 c] w fun e w' => e = .returned (.int .i64 (k : Int)) ∧ Below w.heap.size w w' := by
  have := rneeds_any c w
  rwa [hk.out] at this
theorem rcalls_r (c : Int) (z : Bool) (w : World) (hz : Hid (callsB c = z)) : Calls Try.prog 15 #[.int .i64 c] w fun e w' => e = .returned (.bool z) ∧ w = w' := by
  have := rcalls_any c w
  rwa [hz.out] at this
theorem FrM.drew {w wc : World} {Y : Nat} {fa fb : Value} {ret : Int} {fd fe : Value} {y : InI} {yv : Value} {u : InI} {uv : Value} (h : FrM w wc Y fa fb ret fd fe y yv u uv) : FrM w wc.drew Y fa fb ret fd fe y yv u uv := ⟨Below.drew' h.b, h.f, h.y, h.u, h.ny⟩
theorem rows_set9 {E : InI → List Value → Prop} {l : List InI} {xs : List Value} (h : RowsE 9 E l xs) (hk : ∀ a c, E a c → c.length = 9) {i : Nat} {z : InI} {c0 c1 c2 c3 c4 c5 c6 c7 c8 : Value} (hi : i < l.length) (hE : E z [c0, c1, c2, c3, c4, c5, c6, c7, c8]) :
    RowsE 9 E (l.set i z) (((((((((xs.set (i * 9) c0).set (i * 9 + 1) c1).set (i * 9 + 2) c2).set (i * 9 + 3) c3).set (i * 9 + 4) c4).set (i * 9 + 5) c5).set (i * 9 + 6) c6).set (i * 9 + 7) c7).set (i * 9 + 8) c8) := by
  have hl := h.1
  refine ⟨by simp [hl], fun k a hka => ?_⟩
  rw [List.getElem?_set] at hka
  by_cases e : i = k
  · subst e
    rw [if_pos rfl, if_pos hi] at hka
    injection hka with hka
    subst hka
    refine ⟨_, hE, fun j u hj => ?_⟩
    have hj9 : j < 9 := (List.getElem?_eq_some_iff.1 hj).1
    have : j = 0 ∨ j = 1 ∨ j = 2 ∨ j = 3 ∨ j = 4 ∨ j = 5 ∨ j = 6 ∨ j = 7 ∨ j = 8 := by omega
    have hx : i * 9 + 8 < xs.length := by omega
    rcases this with rfl | rfl | rfl | rfl | rfl | rfl | rfl | rfl | rfl <;> simp only [List.getElem?_set, List.length_set] <;> simp at hj <;> subst hj <;> simp <;> omega
  · rw [if_neg e] at hka
    obtain ⟨c, h1, h2⟩ := h.2 k a hka
    refine ⟨c, h1, fun j u hj => ?_⟩
    have hj9 : j < 9 := by have := (List.getElem?_eq_some_iff.1 hj).1; have := hk _ _ h1; omega
    have h3 := h2 j u hj
    rw [List.getElem?_set_ne (by omega), List.getElem?_set_ne (by omega), List.getElem?_set_ne (by omega), List.getElem?_set_ne (by omega), List.getElem?_set_ne (by omega), List.getElem?_set_ne (by omega), List.getElem?_set_ne (by omega), List.getElem?_set_ne (by omega), List.getElem?_set_ne (by omega)]
    exact h3
theorem nine9 {w : World} {H k o : Nat} (hk : k ≠ H) (a b c d e f g i j : Value) : (((((((((w.setCell ⟨H, o, none⟩ a).setCell ⟨H, o + 1, none⟩ b).setCell ⟨H, o + 2, none⟩ c).setCell ⟨H, o + 3, none⟩ d).setCell ⟨H, o + 4, none⟩ e).setCell ⟨H, o + 5, none⟩ f).setCell ⟨H, o + 6, none⟩ g).setCell ⟨H, o + 7, none⟩ i).setCell ⟨H, o + 8, none⟩ j).heap[k]? = w.heap[k]? :=
  (Below.heap_setCell _ _ _ _ hk).trans ((Below.heap_setCell _ _ _ _ hk).trans ((Below.heap_setCell _ _ _ _ hk).trans ((Below.heap_setCell _ _ _ _ hk).trans ((Below.heap_setCell _ _ _ _ hk).trans ((Below.heap_setCell _ _ _ _ hk).trans ((Below.heap_setCell _ _ _ _ hk).trans ((Below.heap_setCell _ _ _ _ hk).trans (Below.heap_setCell _ _ _ _ hk))))))))
theorem below9 {B H o : Nat} {a0 w : World} (h : Below B a0 w) (hR : B ≤ H) (a b c d e f g i j : Value) : Below B a0 (((((((((w.setCell ⟨H, o, none⟩ a).setCell ⟨H, o + 1, none⟩ b).setCell ⟨H, o + 2, none⟩ c).setCell ⟨H, o + 3, none⟩ d).setCell ⟨H, o + 4, none⟩ e).setCell ⟨H, o + 5, none⟩ f).setCell ⟨H, o + 6, none⟩ g).setCell ⟨H, o + 7, none⟩ i).setCell ⟨H, o + 8, none⟩ j) :=
  ((((((((h.setCell hR a).setCell hR b).setCell hR c).setCell hR d).setCell hR e).setCell hR f).setCell hR g).setCell hR i).setCell hR j
theorem own9 {w : World} {B T H n hc o : Nat} {xs : List Value} (h : w.ownsRow B T 9 (.slice (some ⟨H, 0, none⟩) n hc) n xs) (a b c d e f g i j : Value) : (((((((((w.setCell ⟨H, o, none⟩ a).setCell ⟨H, o + 1, none⟩ b).setCell ⟨H, o + 2, none⟩ c).setCell ⟨H, o + 3, none⟩ d).setCell ⟨H, o + 4, none⟩ e).setCell ⟨H, o + 5, none⟩ f).setCell ⟨H, o + 6, none⟩ g).setCell ⟨H, o + 7, none⟩ i).setCell ⟨H, o + 8, none⟩ j).ownsRow B T 9 (.slice (some ⟨H, 0, none⟩) n hc) n (((((((((xs.set o a).set (o + 1) b).set (o + 2) c).set (o + 3) d).set (o + 4) e).set (o + 5) f).set (o + 6) g).set (o + 7) i).set (o + 8) j) :=
  (((((((((h.stored o a).1.stored (o + 1) b).1.stored (o + 2) c).1.stored (o + 3) d).1.stored (o + 4) e).1.stored (o + 5) f).1.stored (o + 6) g).1.stored (o + 7) i).1.stored (o + 8) j).1
theorem def_r (x : InI) (v : Value) (w : World) (d : Int) (hd : Hid (defI x = d)) : Calls Try.prog 12 #[inA x v] w fun e w' => e = .returned (.int .i64 d) ∧ Below w.heap.size w w' := by
  have := def_any x v w
  rwa [hd.out] at this
theorem uses_r {P : Nat → Prop} (x : InI) (v : Value) (l : List Int) (w : World) (h : Hid (RdX P 1 NuE w v x.args)) (hby : Hid (x.args.length * 8 ≤ 140737488355328)) (hl : Hid (usesI x = l)) :
    Calls Try.prog 10 #[inA x v] w fun e w' => ∃ v', e = .returned v' ∧ OwN w' w.heap.size v' l ∧ Below w.heap.size w w' := by
  have := uses_any x v w h hby
  rwa [hl.out] at this
set_option maxHeartbeats 8000000 in
set_option maxRecDepth 100000 in
theorem InsFree_walk (f : FuI) (fa fb fd fe : Value) (pos : Int) (x : InI) (v : Value) (w : World) (h : Hid (FuV Tru w f fa fb fd fe)) (hq : Hid (FuQ f)) (hcb : Hid (∀ A n cap, fb = .slice A n cap → n ≤ cap ∧ cap ≤ maxLen)) (hL : Hid (f.code.length * 96 ≤ 140737488355328)) (hargs : Hid (∀ y ∈ f.code, y.args.length * 8 ≤ 140737488355328)) (hv : Hid (RdX Tru 1 NuE w v x.args)) (hpos : -9223372036854775808 ≤ pos ∧ pos ≤ 9223372036854775807) :
    Calls Try.prog 7 #[fuL fa fb f.ret fd fe, .int .i64 pos, inA x v] w fun e w' => e = .returned (.bool true) ∧ Below w.heap.size w w' := by
  obtain ⟨XA, xc, hxv⟩ := hv.out.shape
  obtain ⟨RA, rc, hra⟩ := h.out.a.shape
  obtain ⟨DA, dc, hdd⟩ := h.out.d.shape
  obtain ⟨BA, bc, hbb⟩ := h.out.b.shape
  obtain ⟨EA, ec, hee⟩ := h.out.e.shape
  obtain ⟨n, hn⟩ : ∃ n, f.code.length = n := ⟨_, rfl⟩
  have HN := lhid hn
  rw [hn] at hdd
  subst hxv hra hdd hbb hee
  clear hn
  by_cases q0 : n = 0
  · have e0 : ((n : Int) == 0) = true := by rw [q0]; rfl
    have HQ := lhid q0
    clear q0
    go_enter Try.func7, Try.ntmps7
    go_wp2_with fail
    with_reducible refine (holds_any _).mono ?_
    rintro e w1 ⟨rfl, hb⟩
    have hF : FBox w1 w.heap.size (.slice RA f.regs.length rc) (.slice BA f.params.length bc) f.ret (.slice DA n dc) (.slice EA f.rows.length ec) := heap_keep ((Below.heap_alloc _ _ _ (by simp)).trans (heap_alloc_new w _)) hb
    have hX : XBox w1 (w.heap.size + 1) x.op x.dst x.a x.b x.c x.num x.too x.ref (.slice XA x.args.length xc) := heap_keep (heap_new2 w _ _) hb
    have HB1 := lhid ((((Below.refl w.heap.size w).alloc (Nat.le_refl _) _).alloc (by simp) _).trans (hb.mono (by simp; omega)))
    obtain ⟨p0, p1, p2, p3, p4⟩ := hF.cells
    obtain ⟨y0, y1, y2, y3, y4, y5, y6, y7, y8⟩ := hX.cells
    clear hb hF hX
    go_wp2_with fail
    go_ret
    exact ⟨rfl, HB1.out⟩
  by_cases q1 : 400 < n
  ·
    have e0 : ((n : Int) == 0) = false := by rw [beq_eq_false_iff_ne]; omega
    have e1 : (400 : Int) < n := by omega
    have HQ := lhid (And.intro q0 q1)
    clear q0 q1
    go_enter Try.func7, Try.ntmps7
    go_wp2_with fail
    with_reducible refine (holds_any _).mono ?_
    rintro e w1 ⟨rfl, hb⟩
    have hF : FBox w1 w.heap.size (.slice RA f.regs.length rc) (.slice BA f.params.length bc) f.ret (.slice DA n dc) (.slice EA f.rows.length ec) := heap_keep ((Below.heap_alloc _ _ _ (by simp)).trans (heap_alloc_new w _)) hb
    have hX : XBox w1 (w.heap.size + 1) x.op x.dst x.a x.b x.c x.num x.too x.ref (.slice XA x.args.length xc) := heap_keep (heap_new2 w _ _) hb
    have HB1 := lhid ((((Below.refl w.heap.size w).alloc (Nat.le_refl _) _).alloc (by simp) _).trans (hb.mono (by simp; omega)))
    obtain ⟨p0, p1, p2, p3, p4⟩ := hF.cells
    obtain ⟨y0, y1, y2, y3, y4, y5, y6, y7, y8⟩ := hX.cells
    clear hb hF hX
    go_wp2_with fail
    go_ret
    exact ⟨rfl, HB1.out⟩
  by_cases q2 : 100 < f.regs.length
  ·
    have e0 : ((n : Int) == 0) = false := by rw [beq_eq_false_iff_ne]; omega
    have e1 : ¬ (400 : Int) < n := by omega
    have e2 : (100 : Int) < f.regs.length := by omega
    have HQ := lhid (And.intro q0 (And.intro q1 q2))
    clear q0 q1 q2
    go_enter Try.func7, Try.ntmps7
    go_wp2_with fail
    with_reducible refine (holds_any _).mono ?_
    rintro e w1 ⟨rfl, hb⟩
    have hF : FBox w1 w.heap.size (.slice RA f.regs.length rc) (.slice BA f.params.length bc) f.ret (.slice DA n dc) (.slice EA f.rows.length ec) := heap_keep ((Below.heap_alloc _ _ _ (by simp)).trans (heap_alloc_new w _)) hb
    have hX : XBox w1 (w.heap.size + 1) x.op x.dst x.a x.b x.c x.num x.too x.ref (.slice XA x.args.length xc) := heap_keep (heap_new2 w _ _) hb
    have HB1 := lhid ((((Below.refl w.heap.size w).alloc (Nat.le_refl _) _).alloc (by simp) _).trans (hb.mono (by simp; omega)))
    obtain ⟨p0, p1, p2, p3, p4⟩ := hF.cells
    obtain ⟨y0, y1, y2, y3, y4, y5, y6, y7, y8⟩ := hX.cells
    clear hb hF hX
    go_wp2_with fail
    go_ret
    exact ⟨rfl, HB1.out⟩
  by_cases q3 : 100 < x.args.length
  ·
    have e0 : ((n : Int) == 0) = false := by rw [beq_eq_false_iff_ne]; omega
    have e1 : ¬ (400 : Int) < n := by omega
    have e2 : ¬ (100 : Int) < f.regs.length := by omega
    have e3 : (100 : Int) < x.args.length := by omega
    have HQ := lhid (And.intro q0 (And.intro q1 (And.intro q2 q3)))
    clear q0 q1 q2 q3
    go_enter Try.func7, Try.ntmps7
    go_wp2_with fail
    with_reducible refine (holds_any _).mono ?_
    rintro e w1 ⟨rfl, hb⟩
    have hF : FBox w1 w.heap.size (.slice RA f.regs.length rc) (.slice BA f.params.length bc) f.ret (.slice DA n dc) (.slice EA f.rows.length ec) := heap_keep ((Below.heap_alloc _ _ _ (by simp)).trans (heap_alloc_new w _)) hb
    have hX : XBox w1 (w.heap.size + 1) x.op x.dst x.a x.b x.c x.num x.too x.ref (.slice XA x.args.length xc) := heap_keep (heap_new2 w _ _) hb
    have HB1 := lhid ((((Below.refl w.heap.size w).alloc (Nat.le_refl _) _).alloc (by simp) _).trans (hb.mono (by simp; omega)))
    obtain ⟨p0, p1, p2, p3, p4⟩ := hF.cells
    obtain ⟨y0, y1, y2, y3, y4, y5, y6, y7, y8⟩ := hX.cells
    clear hb hF hX
    go_wp2_with fail
    go_ret
    exact ⟨rfl, HB1.out⟩
  have e0 : ((n : Int) == 0) = false := by rw [beq_eq_false_iff_ne]; omega
  have e1 : ¬ (400 : Int) < n := by omega
  have e2 : ¬ (100 : Int) < f.regs.length := by omega
  have e3 : ¬ (100 : Int) < x.args.length := by omega
  have n0 : 0 < n := by omega
  have HQ := lhid (And.intro q0 (And.intro q1 (And.intro q2 q3)))
  clear q0 q1 q2 q3
  go_enter Try.func7, Try.ntmps7
  go_wp2_with fail
  with_reducible refine (holds_any _).mono ?_
  rintro e w1 ⟨rfl, hb⟩
  have hF : FBox w1 w.heap.size (.slice RA f.regs.length rc) (.slice BA f.params.length bc) f.ret (.slice DA n dc) (.slice EA f.rows.length ec) := heap_keep ((Below.heap_alloc _ _ _ (by simp)).trans (heap_alloc_new w _)) hb
  have hX : XBox w1 (w.heap.size + 1) x.op x.dst x.a x.b x.c x.num x.too x.ref (.slice XA x.args.length xc) := heap_keep (heap_new2 w _ _) hb
  have hb1 := (((Below.refl w.heap.size w).alloc (Nat.le_refl _) _).alloc (by simp) _).trans (hb.mono (by simp; omega))
  have hs1 : w.heap.size + 2 ≤ w1.heap.size := by have := hb.size; simpa using this
  have HB1 := lhid hb1
  have HF1 := lhid hF
  have HX1 := lhid hX
  obtain ⟨p0, p1, p2, p3, p4⟩ := hF.cells
  obtain ⟨y0, y1, y2, y3, y4, y5, y6, y7, y8⟩ := hX.cells
  clear hb hb1 hF hX
  go_upto_region 5 with fail
  go_quiet (fail)
  clear p0 p1 p2 p3 p4 y0 y1 y2 y3 y4 y5 y6 y7 y8
  generalize hwd : w1.drewN nq = wd
  have HBd : Hid (Below w.heap.size w wd) := lhid (by rw [← hwd]; exact Below.drewN' HB1.out nq)
  have hF : FBox wd w.heap.size (.slice RA f.regs.length rc) (.slice BA f.params.length bc) f.ret (.slice DA n dc) (.slice EA f.rows.length ec) := by rw [← hwd]; exact HF1.out
  have hX : XBox wd (w.heap.size + 1) x.op x.dst x.a x.b x.c x.num x.too x.ref (.slice XA x.args.length xc) := by rw [← hwd]; exact HX1.out
  have hsd : w.heap.size + 2 ≤ wd.heap.size := by rw [← hwd]; exact hs1
  clear hwd hs1 HB1 HF1 HX1
  clear w1
  obtain ⟨p0, p1, p2, p3, p4⟩ := hF.cells
  obtain ⟨y0, y1, y2, y3, y4, y5, y6, y7, y8⟩ := hX.cells
  have HFd := lhid hF
  have HXd := lhid hX
  have l1 : w.heap.size < wd.heap.size := by omega
  have l2 : w.heap.size + 1 < wd.heap.size := by omega
  have m1 : ¬ w.heap.size = wd.heap.size := by omega
  have m2 : ¬ w.heap.size + 1 = wd.heap.size := by omega
  clear hF hX
  obtain ⟨i, hin, hie⟩ := at_lt pos n n0 (by have := HQ.out; omega)
  rw [hie]
  clear hie
  obtain ⟨y, hy⟩ : ∃ y, f.code[i]? = some y := ⟨_, List.getElem?_eq_getElem (by rw [HN.out]; exact hin)⟩
  have hd := h.out.d.below (keptX_in _) HBd.out
  obtain ⟨dg, od, yv, hDA, _, hyv, c0, c1, c2, c3, c4, c5, c6, c7, c8⟩ := in_cells hd hy
  obtain ⟨YA, yc, hyy⟩ := hyv.shape
  subst hyy
  have i1 : (i : Int) < n := by omega
  have HY := lhid hy
  have HYV := lhid hyv
  subst hDA
  have HYW : Hid (RdX Tru 1 NuE w (.slice YA y.args.length yc) y.args) := lhid (by
    obtain ⟨g', o', v', e', _, h', _, _, _, _, _, _, _, _, k8⟩ := in_cells h.out.d hy
    injection e' with e'
    injection e' with e1 e2
    subst e1 e2
    have h8 := c8
    rw [Go.RowKit.Below.cell HBd.out (cell_lt k8), k8] at h8
    injection h8 with h8
    rw [← h8]
    exact h')
  clear hd hyv hy
  go_upto_region 8 with fail
  generalize hW : World.alloc _ _ = w2
  obtain ⟨Y, hYY⟩ : ∃ Y, wd.heap.size = Y := ⟨_, rfl⟩
  have hfr : FrM w w2 Y (.slice RA f.regs.length rc) (.slice BA f.params.length bc) f.ret (.slice (some ⟨dg, od, none⟩) n dc) (.slice EA f.rows.length ec) y (.slice YA y.args.length yc) x (.slice XA x.args.length xc) := by
    rw [← hW, ← hYY]
    refine ⟨(HBd.out.alloc HBd.out.size _).alloc (by simp; have := HBd.out.size; omega) _, ?_, ?_, ?_, hsd⟩
    · exact (Below.heap_alloc _ _ _ (by simp; omega)).trans ((Below.heap_alloc _ _ _ (by omega)).trans HFd.out)
    · exact (Below.heap_alloc _ _ _ (by simp)).trans (heap_alloc_new wd _)
    · exact heap_new2 wd _ _
  subst hYY
  have HFR := lhid hfr
  clear hfr hW
  obtain ⟨p0, p1, p2, p3, p4⟩ := HFR.out.f.cells
  obtain ⟨y0, y1, y2, y3, y4, y5, y6, y7, y8⟩ := HFR.out.y.cells
  obtain ⟨u0, u1, u2, u3, u4, u5, u6, u7, u8⟩ := HFR.out.u.cells
  have z0 := heap_thaw HFR.out.u 0
  have z1 := heap_thaw HFR.out.u 1
  have z2 := heap_thaw HFR.out.u 2
  have z3 := heap_thaw HFR.out.u 3
  have z4 := heap_thaw HFR.out.u 4
  have z5 := heap_thaw HFR.out.u 5
  have z6 := heap_thaw HFR.out.u 6
  have z7 := heap_thaw HFR.out.u 7
  have z8 := heap_thaw HFR.out.u 8
  obtain ⟨zw, hzw⟩ : ∃ z, wrB y.op = z := ⟨_, rfl⟩
  obtain ⟨zn, hzn⟩ : ∃ z, needN y.op = z := ⟨_, rfl⟩
  obtain ⟨zc, hzc⟩ : ∃ z, callsB y.op = z := ⟨_, rfl⟩
  obtain ⟨b1, hb1⟩ : ∃ z, decide (1 ≤ zn) = z := ⟨_, rfl⟩
  obtain ⟨b2, hb2⟩ : ∃ z, decide (2 ≤ zn) = z := ⟨_, rfl⟩
  obtain ⟨b3, hb3⟩ : ∃ z, decide (3 ≤ zn) = z := ⟨_, rfl⟩
  have HZW := lhid hzw
  have HZN := lhid hzn
  have HZC := lhid hzc
  have HB1 := lhid hb1
  have HB2 := lhid hb2
  have HB3 := lhid hb3
  clear hzw hzn hzc hb1 hb2 hb3
  go_wp2_with fail
  with_reducible refine (rwrites_r y.op zw _ HZW).mono ?_
  rintro e w3 ⟨rfl, hb⟩
  replace HFR : Hid (FrM w w3 wd.heap.size (.slice RA f.regs.length rc) (.slice BA f.params.length bc) f.ret (.slice (some ⟨dg, od, none⟩) n dc) (.slice EA f.rows.length ec) y (.slice YA y.args.length yc) ⟨y.op, x.dst, x.a, x.b, x.c, x.num, x.too, x.ref, x.args⟩ (.slice XA x.args.length xc)) := lhid ((HFR.out.st 0 (.int .i64 y.op) ⟨y.op, x.dst, x.a, x.b, x.c, x.num, x.too, x.ref, x.args⟩ (.slice XA x.args.length xc) rfl).below hb)
  clear hb
  clear p0 p1 p2 p3 p4 y0 y1 y2 y3 y4 y5 y6 y7 y8 u0 u1 u2 u3 u4 u5 u6 u7 u8 z0 z1 z2 z3 z4 z5 z6 z7 z8
  obtain ⟨p0, p1, p2, p3, p4⟩ := HFR.out.f.cells
  obtain ⟨y0, y1, y2, y3, y4, y5, y6, y7, y8⟩ := HFR.out.y.cells
  obtain ⟨u0, u1, u2, u3, u4, u5, u6, u7, u8⟩ := HFR.out.u.cells
  have z0 := heap_thaw HFR.out.u 0
  have z1 := heap_thaw HFR.out.u 1
  have z2 := heap_thaw HFR.out.u 2
  have z3 := heap_thaw HFR.out.u 3
  have z4 := heap_thaw HFR.out.u 4
  have z5 := heap_thaw HFR.out.u 5
  have z6 := heap_thaw HFR.out.u 6
  have z7 := heap_thaw HFR.out.u 7
  have z8 := heap_thaw HFR.out.u 8
  go_upto_if 59 with fail
  go_cut [] from 11 (fun wc => Hid (FrM w wc wd.heap.size (.slice RA f.regs.length rc) (.slice BA f.params.length bc) f.ret (.slice (some ⟨dg, od, none⟩) n dc) (.slice EA f.rows.length ec) y (.slice YA y.args.length yc) ⟨y.op, (cond zw y.dst x.dst), x.a, x.b, x.c, x.num, x.too, x.ref, x.args⟩ (.slice XA x.args.length xc)))
  case first =>
    cases zw with
    | true =>
      go_wp2_with fail
      go_meet
      case rel => exact lhid (HFR.out.st 1 _ ⟨y.op, (cond true y.dst x.dst), x.a, x.b, x.c, x.num, x.too, x.ref, x.args⟩ (.slice XA x.args.length xc) rfl)
    | false =>
      go_wp2_with fail
      go_meet
      case rel => exact HFR
  clear HFR
  clear p0 p1 p2 p3 p4 y0 y1 y2 y3 y4 y5 y6 y7 y8 u0 u1 u2 u3 u4 u5 u6 u7 u8 z0 z1 z2 z3 z4 z5 z6 z7 z8
  have HFR := hcut
  clear hcut
  obtain ⟨p0, p1, p2, p3, p4⟩ := HFR.out.f.cells
  obtain ⟨y0, y1, y2, y3, y4, y5, y6, y7, y8⟩ := HFR.out.y.cells
  obtain ⟨u0, u1, u2, u3, u4, u5, u6, u7, u8⟩ := HFR.out.u.cells
  have z0 := heap_thaw HFR.out.u 0
  have z1 := heap_thaw HFR.out.u 1
  have z2 := heap_thaw HFR.out.u 2
  have z3 := heap_thaw HFR.out.u 3
  have z4 := heap_thaw HFR.out.u 4
  have z5 := heap_thaw HFR.out.u 5
  have z6 := heap_thaw HFR.out.u 6
  have z7 := heap_thaw HFR.out.u 7
  have z8 := heap_thaw HFR.out.u 8
  go_wp2_with fail
  with_reducible refine (rneeds_r y.op zn _ HZN).mono ?_
  rintro e w4 ⟨rfl, hb⟩
  replace HFR := lhid (HFR.out.below hb)
  clear hb
  clear p0 p1 p2 p3 p4 y0 y1 y2 y3 y4 y5 y6 y7 y8 u0 u1 u2 u3 u4 u5 u6 u7 u8 z0 z1 z2 z3 z4 z5 z6 z7 z8
  obtain ⟨p0, p1, p2, p3, p4⟩ := HFR.out.f.cells
  obtain ⟨y0, y1, y2, y3, y4, y5, y6, y7, y8⟩ := HFR.out.y.cells
  obtain ⟨u0, u1, u2, u3, u4, u5, u6, u7, u8⟩ := HFR.out.u.cells
  have z0 := heap_thaw HFR.out.u 0
  have z1 := heap_thaw HFR.out.u 1
  have z2 := heap_thaw HFR.out.u 2
  have z3 := heap_thaw HFR.out.u 3
  have z4 := heap_thaw HFR.out.u 4
  have z5 := heap_thaw HFR.out.u 5
  have z6 := heap_thaw HFR.out.u 6
  have z7 := heap_thaw HFR.out.u 7
  have z8 := heap_thaw HFR.out.u 8
  go_upto_if 67 with fail
  go_cut [] from 11 (fun wc => Hid (FrM w wc wd.heap.size (.slice RA f.regs.length rc) (.slice BA f.params.length bc) f.ret (.slice (some ⟨dg, od, none⟩) n dc) (.slice EA f.rows.length ec) y (.slice YA y.args.length yc) ⟨y.op, (cond zw y.dst x.dst), (cond b1 y.a x.a), x.b, x.c, x.num, x.too, x.ref, x.args⟩ (.slice XA x.args.length xc)))
  case first =>
    cases b1 with
    | true =>
      have e := of_decide_eq_true HB1.out
      have e1 : (1 : Int) ≤ zn := by omega
      go_wp2_with fail
      go_meet
      case rel => exact lhid (HFR.out.st 2 _ ⟨y.op, (cond zw y.dst x.dst), (cond true y.a x.a), x.b, x.c, x.num, x.too, x.ref, x.args⟩ (.slice XA x.args.length xc) rfl)
    | false =>
      have e := of_decide_eq_false HB1.out
      have e1 : ¬ (1 : Int) ≤ zn := by omega
      go_wp2_with fail
      go_meet
      case rel => exact HFR
  clear HFR
  clear p0 p1 p2 p3 p4 y0 y1 y2 y3 y4 y5 y6 y7 y8 u0 u1 u2 u3 u4 u5 u6 u7 u8 z0 z1 z2 z3 z4 z5 z6 z7 z8
  have HFR := hcut
  clear hcut
  obtain ⟨p0, p1, p2, p3, p4⟩ := HFR.out.f.cells
  obtain ⟨y0, y1, y2, y3, y4, y5, y6, y7, y8⟩ := HFR.out.y.cells
  obtain ⟨u0, u1, u2, u3, u4, u5, u6, u7, u8⟩ := HFR.out.u.cells
  have z0 := heap_thaw HFR.out.u 0
  have z1 := heap_thaw HFR.out.u 1
  have z2 := heap_thaw HFR.out.u 2
  have z3 := heap_thaw HFR.out.u 3
  have z4 := heap_thaw HFR.out.u 4
  have z5 := heap_thaw HFR.out.u 5
  have z6 := heap_thaw HFR.out.u 6
  have z7 := heap_thaw HFR.out.u 7
  have z8 := heap_thaw HFR.out.u 8
  go_upto_if 72 with fail
  go_cut [] from 11 (fun wc => Hid (FrM w wc wd.heap.size (.slice RA f.regs.length rc) (.slice BA f.params.length bc) f.ret (.slice (some ⟨dg, od, none⟩) n dc) (.slice EA f.rows.length ec) y (.slice YA y.args.length yc) ⟨y.op, (cond zw y.dst x.dst), (cond b1 y.a x.a), (cond b2 y.b x.b), x.c, x.num, x.too, x.ref, x.args⟩ (.slice XA x.args.length xc)))
  case first =>
    cases b2 with
    | true =>
      have e := of_decide_eq_true HB2.out
      have e1 : (2 : Int) ≤ zn := by omega
      go_wp2_with fail
      go_meet
      case rel => exact lhid (HFR.out.st 3 _ ⟨y.op, (cond zw y.dst x.dst), (cond b1 y.a x.a), (cond true y.b x.b), x.c, x.num, x.too, x.ref, x.args⟩ (.slice XA x.args.length xc) rfl)
    | false =>
      have e := of_decide_eq_false HB2.out
      have e1 : ¬ (2 : Int) ≤ zn := by omega
      go_wp2_with fail
      go_meet
      case rel => exact HFR
  clear HFR
  clear p0 p1 p2 p3 p4 y0 y1 y2 y3 y4 y5 y6 y7 y8 u0 u1 u2 u3 u4 u5 u6 u7 u8 z0 z1 z2 z3 z4 z5 z6 z7 z8
  have HFR := hcut
  clear hcut
  obtain ⟨p0, p1, p2, p3, p4⟩ := HFR.out.f.cells
  obtain ⟨y0, y1, y2, y3, y4, y5, y6, y7, y8⟩ := HFR.out.y.cells
  obtain ⟨u0, u1, u2, u3, u4, u5, u6, u7, u8⟩ := HFR.out.u.cells
  have z0 := heap_thaw HFR.out.u 0
  have z1 := heap_thaw HFR.out.u 1
  have z2 := heap_thaw HFR.out.u 2
  have z3 := heap_thaw HFR.out.u 3
  have z4 := heap_thaw HFR.out.u 4
  have z5 := heap_thaw HFR.out.u 5
  have z6 := heap_thaw HFR.out.u 6
  have z7 := heap_thaw HFR.out.u 7
  have z8 := heap_thaw HFR.out.u 8
  go_upto_if 77 with fail
  go_cut [] from 11 (fun wc => Hid (FrM w wc wd.heap.size (.slice RA f.regs.length rc) (.slice BA f.params.length bc) f.ret (.slice (some ⟨dg, od, none⟩) n dc) (.slice EA f.rows.length ec) y (.slice YA y.args.length yc) ⟨y.op, (cond zw y.dst x.dst), (cond b1 y.a x.a), (cond b2 y.b x.b), (cond b3 y.c x.c), x.num, x.too, x.ref, x.args⟩ (.slice XA x.args.length xc)))
  case first =>
    cases b3 with
    | true =>
      have e := of_decide_eq_true HB3.out
      have e1 : (3 : Int) ≤ zn := by omega
      go_wp2_with fail
      go_meet
      case rel => exact lhid (HFR.out.st 4 _ ⟨y.op, (cond zw y.dst x.dst), (cond b1 y.a x.a), (cond b2 y.b x.b), (cond true y.c x.c), x.num, x.too, x.ref, x.args⟩ (.slice XA x.args.length xc) rfl)
    | false =>
      have e := of_decide_eq_false HB3.out
      have e1 : ¬ (3 : Int) ≤ zn := by omega
      go_wp2_with fail
      go_meet
      case rel => exact HFR
  clear HFR
  clear p0 p1 p2 p3 p4 y0 y1 y2 y3 y4 y5 y6 y7 y8 u0 u1 u2 u3 u4 u5 u6 u7 u8 z0 z1 z2 z3 z4 z5 z6 z7 z8
  have HFR := hcut
  clear hcut
  obtain ⟨p0, p1, p2, p3, p4⟩ := HFR.out.f.cells
  obtain ⟨y0, y1, y2, y3, y4, y5, y6, y7, y8⟩ := HFR.out.y.cells
  obtain ⟨u0, u1, u2, u3, u4, u5, u6, u7, u8⟩ := HFR.out.u.cells
  have z0 := heap_thaw HFR.out.u 0
  have z1 := heap_thaw HFR.out.u 1
  have z2 := heap_thaw HFR.out.u 2
  have z3 := heap_thaw HFR.out.u 3
  have z4 := heap_thaw HFR.out.u 4
  have z5 := heap_thaw HFR.out.u 5
  have z6 := heap_thaw HFR.out.u 6
  have z7 := heap_thaw HFR.out.u 7
  have z8 := heap_thaw HFR.out.u 8
  go_wp2_with fail
  with_reducible refine (rcalls_r y.op zc _ HZC).mono ?_
  rintro e w5 ⟨rfl, rfl⟩
  go_upto_if 83 with fail
  go_cut [] from 11 (fun wc => Hid (FrM w wc wd.heap.size (.slice RA f.regs.length rc) (.slice BA f.params.length bc) f.ret (.slice (some ⟨dg, od, none⟩) n dc) (.slice EA f.rows.length ec) y (.slice YA y.args.length yc) ⟨y.op, (cond zw y.dst x.dst), (cond b1 y.a x.a), (cond b2 y.b x.b), (cond b3 y.c x.c), x.num, x.too, x.ref, (cond zc y.args x.args)⟩ (cond zc (.slice YA y.args.length yc) (.slice XA x.args.length xc))))
  case first =>
    cases zc with
    | true =>
      go_wp2_with fail
      go_meet
      case rel => exact lhid (HFR.out.st 8 _ ⟨y.op, (cond zw y.dst x.dst), (cond b1 y.a x.a), (cond b2 y.b x.b), (cond b3 y.c x.c), x.num, x.too, x.ref, (cond true y.args x.args)⟩ (cond true (.slice YA y.args.length yc) (.slice XA x.args.length xc)) rfl)
    | false =>
      go_wp2_with fail
      go_meet
      case rel => exact HFR
  clear HFR
  clear p0 p1 p2 p3 p4 y0 y1 y2 y3 y4 y5 y6 y7 y8 u0 u1 u2 u3 u4 u5 u6 u7 u8 z0 z1 z2 z3 z4 z5 z6 z7 z8
  have HFR := hcut
  clear hcut
  obtain ⟨p0, p1, p2, p3, p4⟩ := HFR.out.f.cells
  obtain ⟨y0, y1, y2, y3, y4, y5, y6, y7, y8⟩ := HFR.out.y.cells
  obtain ⟨u0, u1, u2, u3, u4, u5, u6, u7, u8⟩ := HFR.out.u.cells
  have z0 := heap_thaw HFR.out.u 0
  have z1 := heap_thaw HFR.out.u 1
  have z2 := heap_thaw HFR.out.u 2
  have z3 := heap_thaw HFR.out.u 3
  have z4 := heap_thaw HFR.out.u 4
  have z5 := heap_thaw HFR.out.u 5
  have z6 := heap_thaw HFR.out.u 6
  have z7 := heap_thaw HFR.out.u 7
  have z8 := heap_thaw HFR.out.u 8
  go_upto_region 20 with fail
  go_cut [] from 11 (fun wc => Hid (FrM w wc wd.heap.size (.slice RA f.regs.length rc) (.slice BA f.params.length bc) f.ret (.slice (some ⟨dg, od, none⟩) n dc) (.slice EA f.rows.length ec) y (.slice YA y.args.length yc) ⟨y.op, (cond zw y.dst x.dst), (cond b1 y.a x.a), (cond b2 y.b x.b), (cond b3 y.c x.c), y.num, y.too, y.ref, (cond zc y.args x.args)⟩ (cond zc (.slice YA y.args.length yc) (.slice XA x.args.length xc))))
  case first =>
    go_region
    go_wp2_with fail
    go_meet
    case rel => exact lhid (FrM.drew (((HFR.out.st 5 (.int .i64 y.num) ⟨y.op, cond zw y.dst x.dst, cond b1 y.a x.a, cond b2 y.b x.b, cond b3 y.c x.c, y.num, x.too, x.ref, cond zc y.args x.args⟩ _ rfl).st 6 (.int .i64 y.too) ⟨y.op, cond zw y.dst x.dst, cond b1 y.a x.a, cond b2 y.b x.b, cond b3 y.c x.c, y.num, y.too, x.ref, cond zc y.args x.args⟩ _ rfl).st 7 (.string (tx y.ref)) ⟨y.op, (cond zw y.dst x.dst), (cond b1 y.a x.a), (cond b2 y.b x.b), (cond b3 y.c x.c), y.num, y.too, y.ref, (cond zc y.args x.args)⟩ _ rfl))
  rename_i w5
  clear HFR
  clear p0 p1 p2 p3 p4 y0 y1 y2 y3 y4 y5 y6 y7 y8 u0 u1 u2 u3 u4 u5 u6 u7 u8 z0 z1 z2 z3 z4 z5 z6 z7 z8
  obtain ⟨z, hz⟩ : ∃ z, z = freeI y x := ⟨_, rfl⟩
  have HZ := lhid hz
  obtain ⟨uv, huv⟩ : ∃ uv : Value, uv = (cond zc (.slice YA y.args.length yc) (.slice XA x.args.length xc)) := ⟨_, rfl⟩
  have HVW : Hid (RdX Tru 1 NuE w uv z.args) := lhid (by
    rw [huv, hz]
    unfold freeI
    rw [HZC.out]
    cases zc with
    | true => exact HYW.out
    | false => exact hv.out)
  have HFR : Hid (FrM w wc wd.heap.size (.slice RA f.regs.length rc) (.slice BA f.params.length bc) f.ret (.slice (some ⟨dg, od, none⟩) n dc) (.slice EA f.rows.length ec) y (.slice YA y.args.length yc) z uv) := lhid (by
    have e : z = ⟨y.op, (cond zw y.dst x.dst), (cond b1 y.a x.a), (cond b2 y.b x.b), (cond b3 y.c x.c), y.num, y.too, y.ref, (cond zc y.args x.args)⟩ := by
      rw [hz]
      unfold freeI
      rw [HZW.out, HZN.out, HZC.out]
      have k1 := HB1.out
      have k2 := HB2.out
      have k3 := HB3.out
      subst k1 k2 k3
      cases zw <;> cases zc <;> simp [Bool.cond_decide]
    rw [e, huv]
    exact hcut.out)
  clear hcut hz huv
  obtain ⟨p0, p1, p2, p3, p4⟩ := HFR.out.f.cells
  obtain ⟨y0, y1, y2, y3, y4, y5, y6, y7, y8⟩ := HFR.out.y.cells
  obtain ⟨u0, u1, u2, u3, u4, u5, u6, u7, u8⟩ := HFR.out.u.cells
  have z0 := heap_thaw HFR.out.u 0
  have z1 := heap_thaw HFR.out.u 1
  have z2 := heap_thaw HFR.out.u 2
  have z3 := heap_thaw HFR.out.u 3
  have z4 := heap_thaw HFR.out.u 4
  have z5 := heap_thaw HFR.out.u 5
  have z6 := heap_thaw HFR.out.u 6
  have z7 := heap_thaw HFR.out.u 7
  have z8 := heap_thaw HFR.out.u 8
  go_upto_region 22 with fail
  generalize hW2 : World.alloc _ _ = w6
  obtain ⟨G, hG0⟩ : ∃ G, G = wc.heap.size := ⟨_, rfl⟩
  have hgl : wd.heap.size + 2 ≤ G := by have := heap_lt HFR.out.u; omega
  have hg6 : FBox w6 G (.slice RA f.regs.length rc) (.slice BA f.params.length bc) f.ret (.slice (some ⟨dg, od, none⟩) n dc) (.slice EA f.rows.length ec) := by rw [← hW2, hG0]; exact heap_alloc_new wc _
  have hfr6 := HFR.out.below (show Below wc.heap.size wc w6 by rw [← hW2]; exact (Below.refl _ _).alloc (Nat.le_refl _) _)
  rw [← hG0]
  clear HFR hW2 hG0
  clear p0 p1 p2 p3 p4 y0 y1 y2 y3 y4 y5 y6 y7 y8 u0 u1 u2 u3 u4 u5 u6 u7 u8 z0 z1 z2 z3 z4 z5 z6 z7 z8
  have HFR := lhid hfr6
  clear hfr6
  obtain ⟨p0, p1, p2, p3, p4⟩ := HFR.out.f.cells
  obtain ⟨y0, y1, y2, y3, y4, y5, y6, y7, y8⟩ := HFR.out.y.cells
  obtain ⟨u0, u1, u2, u3, u4, u5, u6, u7, u8⟩ := HFR.out.u.cells
  have z0 := heap_thaw HFR.out.u 0
  have z1 := heap_thaw HFR.out.u 1
  have z2 := heap_thaw HFR.out.u 2
  have z3 := heap_thaw HFR.out.u 3
  have z4 := heap_thaw HFR.out.u 4
  have z5 := heap_thaw HFR.out.u 5
  have z6 := heap_thaw HFR.out.u 6
  have z7 := heap_thaw HFR.out.u 7
  have z8 := heap_thaw HFR.out.u 8
  obtain ⟨g0, g1, g2, g3, g4⟩ := hg6.cells
  have HG6 := lhid hg6
  clear hg6
  obtain ⟨xs, HX⟩ : ∃ xs, Hid (RowsE 9 (InE Tru w) f.code xs ∧ (∀ (j : Nat) u, xs[j]? = some u → w6.cell? ((⟨dg, od, none⟩ : Addr).add j) = some u) ∧ ∀ u, u ∈ xs → u.oneCell' = true) := by
    obtain ⟨xs, hx⟩ := rdX_cells (row_in Tru) h.out.d
    refine ⟨xs, lhid ⟨hx.1, fun j u hj => ?_, hx.2.2⟩⟩
    have h1 := hx.2.1 j u hj
    rw [Go.RowKit.Below.cell HFR.out.b (cell_lt h1)]
    exact h1
  obtain ⟨i0, hi0, hz0, hz1, hz2⟩ := info_parts info_in
  have HI1 := lhid hi0
  have HI2 := lhid hz0
  have HI3 := lhid hz1
  have HI4 := lhid hz2
  clear hi0 hz0 hz1 hz2
  have n4 : n ≤ 400 := by omega
  go_wp2_with (at_builtin; refine wpList_append_own _ rfl _ (.tmp 98) 31 rfl w6.heap.size 24 i0 (.agg #[.int .i64 0, .int .i64 0, .int .i64 0, .int .i64 0, .int .i64 0, .int .i64 0, .int .i64 0, .string ⟨#[]⟩, .slice none 0 0]) 9 96 Try.underlying31 HI1.out HI2.out HI3.out HI4.out rfl (by decide) (.slice none 0 0) 0 [] rfl (World.ownsRow_nil _ _ _ _) ⟨dg, od, none⟩ n dc xs rfl ?a1 HX.out.2.1 HX.out.2.2 ?a4 ?a5 (Nat.le_refl _) ?_)
  case a1 =>
    have := HX.out.1.1
    rw [HN.out] at this
    exact this
  case a4 => unfold maxLen; omega
  case a5 => omega
  intro v' w7 hown hgrow hnil
  have hb7 : Below w6.heap.size w6 w7 := Below.grown (Below.refl _ _) hgrow (Nat.le_refl _) (fun k hk => by cases hk)
  obtain ⟨H, hc, rfl⟩ : ∃ H hc, v' = .slice (some ⟨H, 0, none⟩) n hc := by
    rcases hown.2 with ⟨_, h2⟩ | ⟨g, cap, cur, h1, _⟩
    · omega
    · exact ⟨g, cap, h1⟩
  have hHl : w6.heap.size ≤ H := own_lt hown H rfl
  have hg7 : FBox w7 G (.slice RA f.regs.length rc) (.slice BA f.params.length bc) f.ret (.slice (some ⟨dg, od, none⟩) n dc) (.slice EA f.rows.length ec) := heap_keep HG6.out hb7
  have hGl := heap_lt HG6.out
  have hfr7 := HFR.out.below hb7
  clear HFR hgrow hnil
  clear p0 p1 p2 p3 p4 y0 y1 y2 y3 y4 y5 y6 y7 y8 u0 u1 u2 u3 u4 u5 u6 u7 u8 z0 z1 z2 z3 z4 z5 z6 z7 z8
  clear g0 g1 g2 g3 g4
  have HOWN := lhid hown
  have HG7 := lhid hg7
  have HFR := lhid hfr7
  have t3 := heap_thaw hg7 3
  obtain ⟨g0, g1, g2, g3, g4⟩ := hg7.cells
  clear hown hg7 hfr7 hb7 HG6
  go_upto_region 23 with fail
  generalize hW8 : World.setCell _ _ _ = w8
  have hG6 : w6.heap.size ≠ G := by omega
  have hGH : H ≠ G := by omega
  have hb8 : Below w.heap.size w w8 := by rw [← hW8]; exact HFR.out.b.setCell (by show w.heap.size ≤ G; omega) _
  have hf8 : FBox w8 w.heap.size (.slice RA f.regs.length rc) (.slice BA f.params.length bc) f.ret (.slice (some ⟨dg, od, none⟩) n dc) (.slice EA f.rows.length ec) := by rw [← hW8]; exact (Below.heap_setCell _ _ _ _ (by show w.heap.size ≠ G; omega)).trans HFR.out.f
  have hy8 : XBox w8 wd.heap.size y.op y.dst y.a y.b y.c y.num y.too y.ref (.slice YA y.args.length yc) := by rw [← hW8]; exact (Below.heap_setCell _ _ _ _ (by show wd.heap.size ≠ G; omega)).trans HFR.out.y
  have hu8 : XBox w8 (wd.heap.size + 1) z.op z.dst z.a z.b z.c z.num z.too z.ref uv := by rw [← hW8]; exact (Below.heap_setCell _ _ _ _ (by show wd.heap.size + 1 ≠ G; omega)).trans HFR.out.u
  have hg8 : FBox w8 G (.slice RA f.regs.length rc) (.slice BA f.params.length bc) f.ret (.slice (some ⟨H, 0, none⟩) n hc) (.slice EA f.rows.length ec) := by rw [← hW8]; exact heap_set HG7.out _
  have ho8 : w8.ownsRow w6.heap.size 24 9 (.slice (some ⟨H, 0, none⟩) n hc) n xs := by
    rw [← hW8]
    refine own_of HOWN.out fun g hg => ?_
    injection hg with hg
    subst hg
    exact Below.heap_setCell _ _ _ _ hGH
  clear HFR HG7 HOWN hW8
  clear g0 g1 g2 g3 g4 t3
  obtain ⟨UA, uc, huv⟩ := HVW.out.shape
  subst huv
  obtain ⟨g0, g1, g2, g3, g4⟩ := hg8.cells
  obtain ⟨u0, u1, u2, u3, u4, u5, u6, u7, u8⟩ := hu8.cells
  have hz : ∀ j, w8.frozen? ⟨H, j, none⟩ = false := fun j => ho8.frozenAt j
  have hxl : xs.length = n * 9 := by have := HX.out.1.1; rwa [HN.out] at this
  have hcell : ∀ j, j < n * 9 → (w8.cell? ⟨H, j, none⟩) = some (xs[j]?.getD undef) := fun j hj => by
    rw [ho8.cellAt j hj, List.getElem?_eq_getElem (by omega)]
    rfl
  have v0 := hcell (i * 9) (by omega)
  have v1 := hcell (i * 9 + 1) (by omega)
  have v2 := hcell (i * 9 + 2) (by omega)
  have v3 := hcell (i * 9 + 3) (by omega)
  have v4 := hcell (i * 9 + 4) (by omega)
  have v5 := hcell (i * 9 + 5) (by omega)
  have v6 := hcell (i * 9 + 6) (by omega)
  have v7 := hcell (i * 9 + 7) (by omega)
  have v8 := hcell (i * 9 + 8) (by omega)
  have HXL := lhid hxl
  have HB8 := lhid hb8
  have HF8 := lhid hf8
  have HY8 := lhid hy8
  have HU8 := lhid hu8
  have HG8 := lhid hg8
  have HO8 := lhid ho8
  clear hcell hxl hb8 hf8 hy8 hu8 hg8 ho8
  go_upto_region 24 with fail
  generalize hW9 : World.setCell _ _ _ = w9
  have hwH : w.heap.size ≤ H := by omega
  have hb9 : Below w.heap.size w w9 := by rw [← hW9]; exact below9 HB8.out hwH _ _ _ _ _ _ _ _ _
  have hf9 : FBox w9 w.heap.size (.slice RA f.regs.length rc) (.slice BA f.params.length bc) f.ret (.slice (some ⟨dg, od, none⟩) n dc) (.slice EA f.rows.length ec) := by rw [← hW9]; exact (nine9 (by omega) _ _ _ _ _ _ _ _ _).trans HF8.out
  have hy9 : XBox w9 wd.heap.size y.op y.dst y.a y.b y.c y.num y.too y.ref (.slice YA y.args.length yc) := by rw [← hW9]; exact (nine9 (by omega) _ _ _ _ _ _ _ _ _).trans HY8.out
  have hu9 : XBox w9 (wd.heap.size + 1) z.op z.dst z.a z.b z.c z.num z.too z.ref (.slice UA z.args.length uc) := by rw [← hW9]; exact (nine9 (by omega) _ _ _ _ _ _ _ _ _).trans HU8.out
  have hg9 : FBox w9 G (.slice RA f.regs.length rc) (.slice BA f.params.length bc) f.ret (.slice (some ⟨H, 0, none⟩) n hc) (.slice EA f.rows.length ec) := by rw [← hW9]; exact (nine9 (by omega) _ _ _ _ _ _ _ _ _).trans HG8.out
  have hset : (f.code.set i z).length = n := by rw [List.length_set]; exact HN.out
  have hd9 : RdX Tru 9 (InE Tru) w9 (.slice (some ⟨H, 0, none⟩) n hc) (f.code.set i z) := by
    have ho := own9 (o := i * 9) HO8.out (.int .i64 z.op) (.int .i64 z.dst) (.int .i64 z.a) (.int .i64 z.b) (.int .i64 z.c) (.int .i64 z.num) (.int .i64 z.too) (.string (tx z.ref)) (.slice UA z.args.length uc)
    rw [hW9] at ho
    refine (rdX_own (l := f.code.set i z) (by rw [hset]; exact ho) (by rw [hset]; omega) (rows_set9 (HX.out.1.imp (E' := InE Tru w9) (fun a c hc => keptX_in Tru w w9 a c (fun g _ hl => hb9.block g hl) hc)) (fun a c hc => (row_in Tru w9 a c hc).1) (by rw [HN.out]; exact hin) ⟨_, rfl, HVW.out.below (keptX_nu _) hb9⟩)).any (fun _ _ => trivial)
  have HFV : Hid (FuV Tru w9 f (.slice RA f.regs.length rc) (.slice BA f.params.length bc) (.slice (some ⟨dg, od, none⟩) n dc) (.slice EA f.rows.length ec)) := lhid (h.out.below hb9)
  have HGV : Hid (FuV Tru w9 { f with code := f.code.set i z } (.slice RA f.regs.length rc) (.slice BA f.params.length bc) (.slice (some ⟨H, 0, none⟩) n hc) (.slice EA f.rows.length ec)) := lhid ⟨HFV.out.a, HFV.out.b, hd9, HFV.out.e⟩
  have HYV9 : Hid (RdX Tru 1 NuE w9 (.slice YA y.args.length yc) y.args) := lhid (HYW.out.below (keptX_nu _) hb9)
  have HUV9 : Hid (RdX Tru 1 NuE w9 (.slice UA z.args.length uc) z.args) := lhid (HVW.out.below (keptX_nu _) hb9)
  have hym : y ∈ f.code := List.mem_of_getElem? HY.out
  have HGQ : Hid (FuQ { f with code := f.code.set i z }) := lhid ⟨fun a ha => by
      rcases List.mem_or_eq_of_mem_set ha with h1 | h1
      · exact hq.out.num a h1
      · rw [h1, HZ.out]
        exact hq.out.num y hym, fun a ha => by
      rcases List.mem_or_eq_of_mem_set ha with h1 | h1
      · exact hq.out.ref a h1
      · rw [h1, HZ.out]
        exact hq.out.ref y hym⟩
  obtain ⟨c, hcf⟩ : ∃ c, chkN f = c := ⟨_, rfl⟩
  obtain ⟨d, hdf⟩ : ∃ d, defI y = d := ⟨_, rfl⟩
  obtain ⟨us, huf⟩ : ∃ us, usesI y = us := ⟨_, rfl⟩
  have HCG : Hid (chkN { f with code := f.code.set i z } = c) := lhid (by rw [HZ.out, free_chk f i y x HY.out, hcf])
  have HDZ : Hid (defI z = d) := lhid (by rw [HZ.out, free_def, hdf])
  have HUZ : Hid (usesI z = us) := lhid (by rw [HZ.out, free_uses, huf])
  have HYB : Hid (y.args.length * 8 ≤ 140737488355328) := lhid (hargs.out y hym)
  have HZB : Hid (z.args.length * 8 ≤ 140737488355328) := lhid (by
    rw [HZ.out]
    unfold freeI
    dsimp only
    split
    · exact HYB.out
    · omega)
  have HUSL : Hid (us.length ≤ 140737488355328) := lhid (by
    rw [← huf]
    have := usesI_len y
    have := HYB.out
    omega)
  have HCF := lhid hcf
  have HDY := lhid hdf
  have HUY := lhid huf
  have HG9 := lhid hg9
  have HF9 := lhid hf9
  have HY9 := lhid hy9
  have HU9 := lhid hu9
  have HB9 := lhid hb9
  have HGA : Hid (∀ w' : World, Below w9.heap.size w9 w' → (w'.cell? ⟨G, 0, none⟩ = some (.slice RA f.regs.length rc) ∧ w'.cell? ⟨G, 1, none⟩ = some (.slice BA f.params.length bc) ∧ w'.cell? ⟨G, 2, none⟩ = some (.int .i64 f.ret) ∧ w'.cell? ⟨G, 3, none⟩ = some (.slice (some ⟨H, 0, none⟩) n hc) ∧ w'.cell? ⟨G, 4, none⟩ = some (.slice EA f.rows.length ec)) ∧ (w'.cell? ⟨w.heap.size, 0, none⟩ = some (.slice RA f.regs.length rc) ∧ w'.cell? ⟨w.heap.size, 1, none⟩ = some (.slice BA f.params.length bc) ∧ w'.cell? ⟨w.heap.size, 2, none⟩ = some (.int .i64 f.ret) ∧ w'.cell? ⟨w.heap.size, 3, none⟩ = some (.slice (some ⟨dg, od, none⟩) n dc) ∧ w'.cell? ⟨w.heap.size, 4, none⟩ = some (.slice EA f.rows.length ec)) ∧ (w'.cell? ⟨wd.heap.size, 0, none⟩ = some (.int .i64 y.op) ∧ w'.cell? ⟨wd.heap.size, 1, none⟩ = some (.int .i64 y.dst) ∧ w'.cell? ⟨wd.heap.size, 2, none⟩ = some (.int .i64 y.a) ∧ w'.cell? ⟨wd.heap.size, 3, none⟩ = some (.int .i64 y.b) ∧ w'.cell? ⟨wd.heap.size, 4, none⟩ = some (.int .i64 y.c) ∧ w'.cell? ⟨wd.heap.size, 5, none⟩ = some (.int .i64 y.num) ∧ w'.cell? ⟨wd.heap.size, 6, none⟩ = some (.int .i64 y.too) ∧ w'.cell? ⟨wd.heap.size, 7, none⟩ = some (.string (tx y.ref)) ∧ w'.cell? ⟨wd.heap.size, 8, none⟩ = some (.slice YA y.args.length yc)) ∧ (w'.cell? ⟨wd.heap.size + 1, 0, none⟩ = some (.int .i64 z.op) ∧ w'.cell? ⟨wd.heap.size + 1, 1, none⟩ = some (.int .i64 z.dst) ∧ w'.cell? ⟨wd.heap.size + 1, 2, none⟩ = some (.int .i64 z.a) ∧ w'.cell? ⟨wd.heap.size + 1, 3, none⟩ = some (.int .i64 z.b) ∧ w'.cell? ⟨wd.heap.size + 1, 4, none⟩ = some (.int .i64 z.c) ∧ w'.cell? ⟨wd.heap.size + 1, 5, none⟩ = some (.int .i64 z.num) ∧ w'.cell? ⟨wd.heap.size + 1, 6, none⟩ = some (.int .i64 z.too) ∧ w'.cell? ⟨wd.heap.size + 1, 7, none⟩ = some (.string (tx z.ref)) ∧ w'.cell? ⟨wd.heap.size + 1, 8, none⟩ = some (.slice UA z.args.length uc))) := lhid (fun w' hw' => by
    have k1 : FBox w' G (.slice RA f.regs.length rc) (.slice BA f.params.length bc) f.ret (.slice (some ⟨H, 0, none⟩) n hc) (.slice EA f.rows.length ec) := heap_keep HG9.out hw'
    have k2 : FBox w' w.heap.size (.slice RA f.regs.length rc) (.slice BA f.params.length bc) f.ret (.slice (some ⟨dg, od, none⟩) n dc) (.slice EA f.rows.length ec) := heap_keep HF9.out hw'
    have k3 : XBox w' wd.heap.size y.op y.dst y.a y.b y.c y.num y.too y.ref (.slice YA y.args.length yc) := heap_keep HY9.out hw'
    have k4 : XBox w' (wd.heap.size + 1) z.op z.dst z.a z.b z.c z.num z.too z.ref (.slice UA z.args.length uc) := heap_keep HU9.out hw'
    exact ⟨k1.cells, k2.cells, k3.cells, k4.cells⟩)
  clear g0 g1 g2 g3 g4 u0 u1 u2 u3 u4 u5 u6 u7 u8 v0 v1 v2 v3 v4 v5 v6 v7 v8 hz hW9 hb9 hf9 hy9 hu9 hg9 hd9 hcf hdf huf hset hym
  refine wp_region_held_drew (S := fun w' => Below w9.heap.size w9 w') (by kernel_rfl) (Below.drew' (Below.refl _ _)) ?_
  intro hS0
  refine wpAnyH_take (i := 0) (v := ?tv1) rfl (by kernel_rfl) (by kernel_rfl) (by kernel_rfl) (fun _ _ _ h => h) (Or.inl ⟨by rfl, ?ty1⟩) hS0 ?tr1
  case ty1 => (intro w' hw'; obtain ⟨⟨g0, g1, g2, g3, g4⟩, ⟨p0, p1, p2, p3, p4⟩, ⟨y0, y1, y2, y3, y4, y5, y6, y7, y8⟩, ⟨u0, u1, u2, u3, u4, u5, u6, u7, u8⟩⟩ := HGA.out w' hw'; go_simp; try with_reducible rfl)
  try simp only [Act.put, List.setIfInBounds_toArray, List.set_cons_zero, List.set_cons_succ]
  refine wpAnyH_take (i := 2) (v := ?tv2) rfl (by kernel_rfl) (by kernel_rfl) (by kernel_rfl) (fun _ _ _ h => h) (Or.inl ⟨by rfl, ?ty2⟩) hS0 ?tr2
  case ty2 => (intro w' hw'; obtain ⟨⟨g0, g1, g2, g3, g4⟩, ⟨p0, p1, p2, p3, p4⟩, ⟨y0, y1, y2, y3, y4, y5, y6, y7, y8⟩, ⟨u0, u1, u2, u3, u4, u5, u6, u7, u8⟩⟩ := HGA.out w' hw'; go_simp; try with_reducible rfl)
  try simp only [Act.put, List.setIfInBounds_toArray, List.set_cons_zero, List.set_cons_succ]
  refine wpAnyH_ready (rs := [1]) (by kernel_rfl) (by simp) ?_
  refine AllReadyH.cons rfl (fun K hK => ?_) AllReadyH.nil
  go_simp
  refine (check_r { f with code := f.code.set i z } (.slice RA f.regs.length rc) (.slice BA f.params.length bc) (.slice (some ⟨H, 0, none⟩) n hc) (.slice EA f.rows.length ec) c _ (lhid (HGV.out.below hS0)) HGQ hcb HCG).mono ?_
  rintro e wa1 ⟨rfl, hb⟩
  have hS1 : Below w9.heap.size w9 wa1 := hS0.trans (hb.mono hS0.size)
  clear hb
  dsimp only
  refine hK.out _ _ hS1 (fun _ => ?_)
  clear hK K
  try simp only [Act.put, List.setIfInBounds_toArray, List.set_cons_zero, List.set_cons_succ]
  refine wpAnyH_ready (rs := [3]) (by kernel_rfl) (by simp) ?_
  refine AllReadyH.cons rfl (fun K hK => ?_) AllReadyH.nil
  go_simp
  refine (check_r f (.slice RA f.regs.length rc) (.slice BA f.params.length bc) (.slice (some ⟨dg, od, none⟩) n dc) (.slice EA f.rows.length ec) c _ (lhid (HFV.out.below hS1)) hq hcb HCF).mono ?_
  rintro e wa2 ⟨rfl, hb⟩
  have hS2 : Below w9.heap.size w9 wa2 := hS1.trans (hb.mono hS1.size)
  clear hb
  dsimp only
  refine hK.out _ _ hS2 (fun _ => ?_)
  clear hK K
  try simp only [Act.put, List.setIfInBounds_toArray, List.set_cons_zero, List.set_cons_succ]
  refine wpAnyH_take (i := 4) (v := ?tv3) rfl (by kernel_rfl) (by kernel_rfl) (by kernel_rfl) (fun _ _ _ h => h) (Or.inl ⟨by rfl, ?ty3⟩) hS2 ?tr3
  case ty3 => (intro w' hw'; obtain ⟨⟨g0, g1, g2, g3, g4⟩, ⟨p0, p1, p2, p3, p4⟩, ⟨y0, y1, y2, y3, y4, y5, y6, y7, y8⟩, ⟨u0, u1, u2, u3, u4, u5, u6, u7, u8⟩⟩ := HGA.out w' hw'; go_simp; try with_reducible rfl)
  try simp only [Act.put, List.setIfInBounds_toArray, List.set_cons_zero, List.set_cons_succ]
  refine wpAnyH_take (i := 5) (v := ?tv4) rfl (by kernel_rfl) (by kernel_rfl) (by kernel_rfl) (fun _ _ _ h => h) (Or.inl ⟨by rfl, ?ty4⟩) hS2 ?tr4
  case ty4 => (intro w' hw'; obtain ⟨⟨g0, g1, g2, g3, g4⟩, ⟨p0, p1, p2, p3, p4⟩, ⟨y0, y1, y2, y3, y4, y5, y6, y7, y8⟩, ⟨u0, u1, u2, u3, u4, u5, u6, u7, u8⟩⟩ := HGA.out w' hw'; go_simp; try with_reducible rfl)
  try simp only [Act.put, List.setIfInBounds_toArray, List.set_cons_zero, List.set_cons_succ]
  refine wpAnyH_take (i := 6) (v := ?tv5) rfl (by kernel_rfl) (by kernel_rfl) (by kernel_rfl) (fun _ _ _ h => h) (Or.inl ⟨by rfl, ?ty5⟩) hS2 ?tr5
  case ty5 => (intro w' hw'; obtain ⟨⟨g0, g1, g2, g3, g4⟩, ⟨p0, p1, p2, p3, p4⟩, ⟨y0, y1, y2, y3, y4, y5, y6, y7, y8⟩, ⟨u0, u1, u2, u3, u4, u5, u6, u7, u8⟩⟩ := HGA.out w' hw'; go_simp; try with_reducible rfl)
  try simp only [Act.put, List.setIfInBounds_toArray, List.set_cons_zero, List.set_cons_succ]
  refine wpAnyH_take (i := 8) (v := ?tv6) rfl (by kernel_rfl) (by kernel_rfl) (by kernel_rfl) (fun _ _ _ h => h) (Or.inl ⟨by rfl, ?ty6⟩) hS2 ?tr6
  case ty6 => (intro w' hw'; obtain ⟨⟨g0, g1, g2, g3, g4⟩, ⟨p0, p1, p2, p3, p4⟩, ⟨y0, y1, y2, y3, y4, y5, y6, y7, y8⟩, ⟨u0, u1, u2, u3, u4, u5, u6, u7, u8⟩⟩ := HGA.out w' hw'; go_simp; try with_reducible rfl)
  try simp only [Act.put, List.setIfInBounds_toArray, List.set_cons_zero, List.set_cons_succ]
  refine wpAnyH_ready (rs := [7]) (by kernel_rfl) (by simp) ?_
  refine AllReadyH.cons rfl (fun K hK => ?_) AllReadyH.nil
  rw [if_pos (by rfl)]
  go_simp
  refine (def_r z (.slice UA z.args.length uc) _ d HDZ).mono ?_
  rintro e wa3 ⟨rfl, hb⟩
  have hS3 : Below w9.heap.size w9 wa3 := hS2.trans (hb.mono hS2.size)
  clear hb
  dsimp only
  refine hK.out _ _ hS3 (fun _ => ?_)
  clear hK K
  try simp only [Act.put, List.setIfInBounds_toArray, List.set_cons_zero, List.set_cons_succ]
  refine wpAnyH_ready (rs := [9]) (by kernel_rfl) (by simp) ?_
  refine AllReadyH.cons rfl (fun K hK => ?_) AllReadyH.nil
  rw [if_pos (by rfl)]
  go_simp
  refine (def_r y (.slice YA y.args.length yc) _ d HDY).mono ?_
  rintro e wa4 ⟨rfl, hb⟩
  have hS4 : Below w9.heap.size w9 wa4 := hS3.trans (hb.mono hS3.size)
  clear hb
  dsimp only
  refine hK.out _ _ hS4 (fun _ => ?_)
  clear hK K
  try simp only [Act.put, List.setIfInBounds_toArray, List.set_cons_zero, List.set_cons_succ]
  refine wpAnyH_take (i := 10) (v := ?tv7) rfl (by kernel_rfl) (by kernel_rfl) (by kernel_rfl) (fun _ _ _ h => h) (Or.inl ⟨by rfl, ?ty7⟩) hS4 ?tr7
  case ty7 => (intro w' hw'; obtain ⟨⟨g0, g1, g2, g3, g4⟩, ⟨p0, p1, p2, p3, p4⟩, ⟨y0, y1, y2, y3, y4, y5, y6, y7, y8⟩, ⟨u0, u1, u2, u3, u4, u5, u6, u7, u8⟩⟩ := HGA.out w' hw'; go_simp; try with_reducible rfl)
  try simp only [Act.put, List.setIfInBounds_toArray, List.set_cons_zero, List.set_cons_succ]
  refine wpAnyH_take (i := 11) (v := ?tv8) rfl (by kernel_rfl) (by kernel_rfl) (by kernel_rfl) (fun _ _ _ h => h) (Or.inl ⟨by rfl, ?ty8⟩) hS4 ?tr8
  case ty8 => (intro w' hw'; obtain ⟨⟨g0, g1, g2, g3, g4⟩, ⟨p0, p1, p2, p3, p4⟩, ⟨y0, y1, y2, y3, y4, y5, y6, y7, y8⟩, ⟨u0, u1, u2, u3, u4, u5, u6, u7, u8⟩⟩ := HGA.out w' hw'; go_simp; try with_reducible rfl)
  try simp only [Act.put, List.setIfInBounds_toArray, List.set_cons_zero, List.set_cons_succ]
  refine wpAnyH_take (i := 12) (v := ?tv9) rfl (by kernel_rfl) (by kernel_rfl) (by kernel_rfl) (fun _ _ _ h => h) (Or.inl ⟨by rfl, ?ty9⟩) hS4 ?tr9
  case ty9 => (intro w' hw'; obtain ⟨⟨g0, g1, g2, g3, g4⟩, ⟨p0, p1, p2, p3, p4⟩, ⟨y0, y1, y2, y3, y4, y5, y6, y7, y8⟩, ⟨u0, u1, u2, u3, u4, u5, u6, u7, u8⟩⟩ := HGA.out w' hw'; go_simp; try with_reducible rfl)
  try simp only [Act.put, List.setIfInBounds_toArray, List.set_cons_zero, List.set_cons_succ]
  refine wpAnyH_take (i := 13) (v := ?tv10) rfl (by kernel_rfl) (by kernel_rfl) (by kernel_rfl) (fun _ _ _ h => h) (Or.inl ⟨by rfl, ?ty10⟩) hS4 ?tr10
  case ty10 => (intro w' hw'; obtain ⟨⟨g0, g1, g2, g3, g4⟩, ⟨p0, p1, p2, p3, p4⟩, ⟨y0, y1, y2, y3, y4, y5, y6, y7, y8⟩, ⟨u0, u1, u2, u3, u4, u5, u6, u7, u8⟩⟩ := HGA.out w' hw'; go_simp; try with_reducible rfl)
  try simp only [Act.put, List.setIfInBounds_toArray, List.set_cons_zero, List.set_cons_succ]
  refine wpAnyH_take (i := 15) (v := ?tv11) rfl (by kernel_rfl) (by kernel_rfl) (by kernel_rfl) (fun _ _ _ h => h) (Or.inl ⟨by rfl, ?ty11⟩) hS4 ?tr11
  case ty11 => (intro w' hw'; obtain ⟨⟨g0, g1, g2, g3, g4⟩, ⟨p0, p1, p2, p3, p4⟩, ⟨y0, y1, y2, y3, y4, y5, y6, y7, y8⟩, ⟨u0, u1, u2, u3, u4, u5, u6, u7, u8⟩⟩ := HGA.out w' hw'; go_simp; try with_reducible rfl)
  try simp only [Act.put, List.setIfInBounds_toArray, List.set_cons_zero, List.set_cons_succ]
  refine wpAnyH_ready (rs := [14]) (by kernel_rfl) (by simp) ?_
  refine AllReadyH.cons rfl (fun K hK => ?_) AllReadyH.nil
  rw [if_pos (by rfl)]
  go_simp
  refine (uses_r z (.slice UA z.args.length uc) us _ (lhid (HUV9.out.below (keptX_nu _) hS4)) HZB HUZ).mono ?_
  rintro e wa5 ⟨va, rfl, ho, hb⟩
  have hS5 : Below w9.heap.size w9 wa5 := hS4.trans (hb.mono hS4.size)
  have HO := lhid (own_base ho hS4.size)
  clear ho
  clear hb
  dsimp only
  refine hK.out _ _ hS5 (fun _ => ?_)
  clear hK K
  try simp only [Act.put, List.setIfInBounds_toArray, List.set_cons_zero, List.set_cons_succ]
  refine wpAnyH_ready (rs := [16]) (by kernel_rfl) (by simp) ?_
  refine AllReadyH.cons rfl (fun K hK => ?_) AllReadyH.nil
  rw [if_pos (by rfl)]
  go_simp
  refine (uses_r y (.slice YA y.args.length yc) us _ (lhid (HYV9.out.below (keptX_nu _) hS5)) HYB HUY).mono ?_
  rintro e wa6 ⟨vb, rfl, ho, hb⟩
  have hS6 : Below w9.heap.size w9 wa6 := hS5.trans (hb.mono hS5.size)
  have HO1 := lhid (own_below HO.out hb)
  have HO2 := lhid (own_base ho hS5.size)
  clear ho HO
  clear hb
  dsimp only
  refine hK.out _ _ hS6 (fun _ => ?_)
  clear hK K
  try simp only [Act.put, List.setIfInBounds_toArray, List.set_cons_zero, List.set_cons_succ]
  refine wpAnyH_ready (rs := [17]) (by kernel_rfl) (by simp) ?_
  refine AllReadyH.cons rfl (fun K hK => ?_) AllReadyH.nil
  rw [if_pos (by rfl)]
  go_simp
  refine (rints_b _ _ us _ (lhid (OwN.rd HO1.out HUSL.out)) (lhid (OwN.rd HO2.out HUSL.out))).mono ?_
  rintro e wa7 ⟨rfl, hb⟩
  have hS7 : Below w9.heap.size w9 wa7 := hS6.trans (hb.mono hS6.size)
  clear hb
  dsimp only
  refine hK.out _ _ hS7 (fun _ => ?_)
  clear hK K
  try simp only [Act.put, List.setIfInBounds_toArray, List.set_cons_zero, List.set_cons_succ]
  refine wpAnyH_quiet_tail 18 (by rfl) (by kernel_rfl) (by kernel_rfl) hS7 ?_
  simp only [List.drop_succ_cons, List.drop_zero]
  repeat (first
    | go_big_quiet_skip
    | (go_big_quiet_want
       refine quiet_of_run (v := ?_) (fun w' hw' => ?_) ?_
       rotate_left
       · (go_simp; try with_reducible rfl)
       go_big_quiet_on
       try simp only [Act.put, List.setIfInBounds_toArray, List.set_cons_zero, List.set_cons_succ]))
  refine wpQuiet_nil ?_
  intro wx hwx
  have HW := lhid (HB9.out.trans (hwx.mono HB9.out.size))
  clear hwx
  go_wp2_with fail
  go_ret
  exact ⟨rfl, HW.out⟩
end Go.Proofs.Ytfpnipclhcokmaa
