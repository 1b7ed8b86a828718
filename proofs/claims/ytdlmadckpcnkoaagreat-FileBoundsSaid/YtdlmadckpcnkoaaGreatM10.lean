/- Texts of this claim, joined: FileRef1, FileRef2. -/
import Derived.Test.YtdlmadckpcnkoaaGreatM8
import Derived.Test.YtdlmadckpcnkoaaGreatM6
/- Contracts of the document's reader of class files: wrong, num, count, text, class, flags. -/
namespace Go.Proofs.YtdlmadckpcnkoaaGreat
open Go.RowKit Go
set_option linter.unusedVariables false

/-- The document's reader: where it lies, its bytes, its pool. -/
structure Rc where
  B : Nat
  M : Nat
  g : Nat
  v : Value
  pv : Value
  Lb : Bs
  L : List Con
abbrev tlR (pv : Value) (x : Nat) : Tl := ⟨71, #[pv, .int .i64 x]⟩
structure Rf (ρ : Rc) (σ : Sg) (w : World) : Prop where
  d : DocS (tlR ρ.pv σ.1) ρ.B w ρ.M ρ.v ρ.Lb σ.2
  pool : σ.1 = 0 → ρ.pv = .slice (some ⟨ρ.g, 0, none⟩) ρ.L.length ρ.L.length ∧ RowsAt w ρ.g 52 5 (ρ.L.map conV) ∧ ρ.g ≠ ρ.M
  good : ∀ c, c ∈ ρ.L → GoodC c
  small : ρ.L.length ≤ 1000
theorem app_at2 (a r : Array Value) (i : Nat) (v : Value) (h : r[i]? = some v) : (a ++ r)[a.size + i]? = some v := by
  rw [Array.getElem?_append_right (by omega), Nat.add_sub_cancel_left]
  exact h
theorem Rf.c2 {ρ : Rc} {σ : Sg} {w : World} (h : Rf ρ σ w) : w.cell? ⟨ρ.M, 2, none⟩ = some (.bool σ.2.2) := h.d.doc.c2
theorem Rf.c3 {ρ : Rc} {σ : Sg} {w : World} (h : Rf ρ σ w) : w.cell? ⟨ρ.M, 3, none⟩ = some ρ.pv := heap_cell h.d.doc (app_at2 #[ρ.v, .int .i64 (ρ.Lb.length - σ.2.1.length : Nat), .bool σ.2.2] _ 0 _ rfl)
theorem Rf.c4 {ρ : Rc} {σ : Sg} {w : World} (h : Rf ρ σ w) : w.cell? ⟨ρ.M, 4, none⟩ = some (.int .i64 σ.1) := heap_cell h.d.doc (app_at2 #[ρ.v, .int .i64 (ρ.Lb.length - σ.2.1.length : Nat), .bool σ.2.2] _ 1 _ rfl)
theorem Rf.fz {ρ : Rc} {σ : Sg} {w : World} (h : Rf ρ σ w) (i : Nat) : w.frozen? ⟨ρ.M, i, none⟩ = false := h.d.doc.fz i
theorem Rf.lt {ρ : Rc} {σ : Sg} {w : World} (h : Rf ρ σ w) : ρ.M < w.heap.size := h.d.doc.lt
theorem Rf.drewN {ρ : Rc} {σ : Sg} {w : World} (h : Rf ρ σ w) (n : Nat) : Rf ρ σ (w.drewN n) := ⟨h.d.drewN n, h.pool, h.good, h.small⟩
theorem Rf.alloc {ρ : Rc} {σ : Sg} {w : World} (h : Rf ρ σ w) (o : Obj) : Rf ρ σ (w.alloc o) := ⟨h.d.alloc o, fun h0 => ⟨(h.pool h0).1, (h.pool h0).2.1.alloc o, (h.pool h0).2.2⟩, h.good, h.small⟩
theorem Rf.setErr {ρ : Rc} {σ : Sg} {w : World} (h : Rf ρ σ w) (x : Nat) (hx : x ≠ 0) : Rf ρ (x, σ.2) (w.setCell ⟨ρ.M, 4, none⟩ (.int .i64 x)) := by
  have ho : Only ρ.M w (w.setCell ⟨ρ.M, 4, none⟩ (.int .i64 x)) := (Only.refl ρ.M w).own 4 _
  refine ⟨⟨?_, h.d.le, h.d.suf, rdB_below h.d.rd h.d.low (ho.below h.d.base h.d.bw), h.d.base, h.d.low, Nat.le_trans h.d.bw ho.size⟩, fun h0 => absurd h0 hx, h.good, h.small⟩
  unfold Doc
  rw [heap_set h.d.doc _]
  rfl
/-- What a call of the document's reader leaves: the state σ. -/
def RO (ρ : Rc) (σ : Sg) (val : Value) (w : World) (e : Ending) (w' : World) : Prop := e = .returned val ∧ Rf ρ σ w' ∧ Only ρ.M w w'
set_option maxHeartbeats 1000000 in
set_option maxRecDepth 100000 in
theorem rwrong_any (ρ : Rc) (σ : Sg) (x : Nat) (x' : Int) (hx : x ≠ 0) (w : World) (h : Hid (Rf ρ σ w)) (hxx : Hid (x' = x)) :
    Calls Tryz.prog 35 #[.pointer (some ⟨ρ.M, 0, none⟩), .int .i64 x'] w (RO ρ (wrS x σ) (.tuple #[]) w) := by
  have c4 := h.out.c4
  have f4 := h.out.fz 4
  rw [hxx.out]
  by_cases h0 : σ.1 = 0
  · have H2 := lhid (h.out.setErr x hx)
    rw [wrS_new x h0]
    rw [h0] at c4
    have c4' : w.cell? ⟨ρ.M, 4, none⟩ = some (.int .i64 0) := c4
    clear c4
    go_enter Tryz.func35, Tryz.ntmps35
    go_wp2_with fail
    go_end0
    exact ⟨rfl, H2.out, (Only.refl ρ.M w).own 4 _⟩
  · rw [wrS_bad x h0]
    have t : ((σ.1 : Int) == 0) = false := by rw [beq_eq_false_iff_ne]; omega
    go_enter Tryz.func35, Tryz.ntmps35
    go_wp2_with fail
    go_end0
    exact ⟨rfl, h.out, Only.refl _ _⟩
set_option maxHeartbeats 1000000 in
set_option maxRecDepth 100000 in
theorem rnum_any (ρ : Rc) (σ : Sg) (n : Nat) (n' : Int) (w : World) (h : Hid (Rf ρ σ w)) (hn : n ≤ 2) (hnn : Hid (n' = n)) :
    Calls Tryz.prog 73 #[.pointer (some ⟨ρ.M, 0, none⟩), .int .i64 n'] w (RO ρ (rNum n σ).2 (.int .i64 (rNum n σ).1) w) := by
  have c4 := h.out.c4
  by_cases h0 : σ.1 = 0
  · have t : ((σ.1 : Int) != 0) = false := by rw [h0]; rfl
    have H0 := lhid h0
    have hlt := numN_lt σ.2 n 2 hn
    have hw : wrap64 ((numN σ.2 n : Nat) : Int) = numN σ.2 n := IntWalk.wrap64_in _ (by omega)
    rw [hnn.out]
    clear h0
    go_enter Tryz.func73, Tryz.ntmps73
    go_wp2_with fail
    with_reducible refine (refNum_any (tlR ρ.pv σ.1) ρ.B ρ.M ρ.v ρ.Lb σ.2 n _ h.out.d).mono ?_
    rintro e w1 ⟨rfl, hd, ho⟩
    have HR : Hid (Rf ρ (0, numS σ.2 n) w1) := lhid ⟨by rw [← H0.out]; exact hd, fun _ => ⟨(h.out.pool H0.out).1, (h.out.pool H0.out).2.1.keep ho (h.out.pool H0.out).2.2, (h.out.pool H0.out).2.2⟩, h.out.good, h.out.small⟩
    have HO := lhid ho
    have d2 := HR.out.c2
    clear hd ho
    cases hb : (numS σ.2 n).2 with
    | true =>
      have HE : Hid (rNum n σ = (0, (11, numS σ.2 n))) := lhid (by unfold rNum; rw [if_neg (by rw [H0.out]; simp), if_pos hb])
      have d2' : w1.cell? ⟨ρ.M, 2, none⟩ = some (.bool true) := by rw [← hb]; exact d2
      clear hb d2
      go_wp2_with fail
      with_reducible refine (rwrong_any ρ _ 11 11 (by decide) _ HR (lhid rfl)).mono ?_
      rintro e w2 ⟨rfl, hr, ho⟩
      have HR2 := lhid hr
      have HO2 := lhid (HO.out.trans ho)
      clear hr ho
      go_wp2_with fail
      go_ret
      rw [HE.out]
      exact ⟨rfl, HR2.out, HO2.out⟩
    | false =>
      have HE : Hid (rNum n σ = (numN σ.2 n, (0, numS σ.2 n))) := lhid (by unfold rNum; rw [if_neg (by rw [H0.out]; simp), if_neg (by rw [hb]; simp)])
      have d2' : w1.cell? ⟨ρ.M, 2, none⟩ = some (.bool false) := by rw [← hb]; exact d2
      clear hb d2
      go_wp2_with fail
      go_ret
      rw [HE.out]
      exact ⟨rfl, HR.out, HO.out⟩
  · have t : ((σ.1 : Int) != 0) = true := by rw [bne_iff_ne]; omega
    rw [rNum_bad n h0]
    go_enter Tryz.func73, Tryz.ntmps73
    go_wp2_with fail
    go_ret
    exact ⟨rfl, h.out, Only.refl _ _⟩
end Go.Proofs.YtdlmadckpcnkoaaGreat
/- Contracts of the document's reader of class files: count, text, class, flags. -/
namespace Go.Proofs.YtdlmadckpcnkoaaGreat
open Go.RowKit Go
set_option linter.unusedVariables false

set_option maxHeartbeats 1000000 in
set_option maxRecDepth 100000 in
theorem rcount_any (ρ : Rc) (σ : Sg) (n most : Nat) (n' m' : Int) (w : World) (h : Hid (Rf ρ σ w)) (hn : n ≤ 2) (hnn : Hid (n' = n)) (hm : Hid (m' = most)) :
    Calls Tryz.prog 37 #[.pointer (some ⟨ρ.M, 0, none⟩), .int .i64 n', .int .i64 m'] w (RO ρ (rCnt n most σ).2 (.int .i64 (rCnt n most σ).1) w) := by
  obtain ⟨⟨k, τ⟩, hk⟩ : ∃ p, rNum n σ = p := ⟨_, rfl⟩
  have HK := lhid hk
  rw [hm.out]
  by_cases hlt : most < k
  · have HE : Hid (rCnt n most σ = (0, wrS 2 τ)) := lhid (by unfold rCnt; rw [hk, if_pos hlt])
    have t : (most : Int) < k := by omega
    clear hk hlt
    go_enter Tryz.func37, Tryz.ntmps37
    go_wp2_with fail
    with_reducible refine (rnum_any ρ σ n n' _ h hn hnn).mono ?_
    rintro e w1 ⟨rfl, hr, ho⟩
    rw [HK.out] at hr ⊢
    have HR := lhid hr
    have HO := lhid ho
    clear hr ho
    go_wp2_with fail
    with_reducible refine (rwrong_any ρ τ 2 2 (by decide) _ HR (lhid rfl)).mono ?_
    rintro e w2 ⟨rfl, hr, ho⟩
    have HR2 := lhid hr
    have HO2 := lhid (HO.out.trans ho)
    clear hr ho
    go_wp2_with fail
    go_ret
    rw [HE.out]
    exact ⟨rfl, HR2.out, HO2.out⟩
  · have HE : Hid (rCnt n most σ = (k, τ)) := lhid (by unfold rCnt; rw [hk, if_neg hlt])
    have t : ¬ (most : Int) < k := by omega
    clear hk hlt
    go_enter Tryz.func37, Tryz.ntmps37
    go_wp2_with fail
    with_reducible refine (rnum_any ρ σ n n' _ h hn hnn).mono ?_
    rintro e w1 ⟨rfl, hr, ho⟩
    rw [HK.out] at hr ⊢
    have HR := lhid hr
    have HO := lhid ho
    clear hr ho
    go_wp2_with fail
    go_ret
    rw [HE.out]
    exact ⟨rfl, HR.out, HO.out⟩
set_option maxHeartbeats 1000000 in
set_option maxRecDepth 100000 in
theorem rflags_any (ρ : Rc) (σ : Sg) (b : Nat) (b' : Int) (hb : b < 65536) (w : World) (h : Hid (Rf ρ σ w)) (hbb : Hid (b' = b)) :
    Calls Tryz.prog 34 #[.pointer (some ⟨ρ.M, 0, none⟩), .int .i64 b'] w (RO ρ (rFlg b σ).2 (.int .i64 (rFlg b σ).1) w) := by
  have hk16 := rNum_lt 2 σ (Nat.le_refl 2)
  obtain ⟨⟨k, τ⟩, hk⟩ : ∃ p, rNum 2 σ = p := ⟨_, rfl⟩
  have HK := lhid hk
  rw [hk] at hk16
  have ha := and16 k b hk16 hb
  rw [hbb.out]
  by_cases hlt : k &&& b = k
  · have HE : Hid (rFlg b σ = (k, τ)) := lhid (by unfold rFlg; rw [hk]; simp only []; rw [if_pos hlt])
    have t : (bits .and .i64 (k : Int) (b : Int) != k) = false := by rw [ha, hlt]; simp
    clear hk hlt ha
    go_enter Tryz.func34, Tryz.ntmps34
    go_wp2_with fail
    with_reducible refine (rnum_any ρ σ 2 2 _ h (Nat.le_refl 2) (lhid rfl)).mono ?_
    rintro e w1 ⟨rfl, hr, ho⟩
    rw [HK.out] at hr ⊢
    have HR := lhid hr
    have HO := lhid ho
    clear hr ho
    go_wp2_with fail
    go_ret
    rw [HE.out]
    exact ⟨rfl, HR.out, HO.out⟩
  · have HE : Hid (rFlg b σ = (k, wrS 22 τ)) := lhid (by unfold rFlg; rw [hk]; simp only []; rw [if_neg hlt])
    have t : (bits .and .i64 (k : Int) (b : Int) != k) = true := by rw [ha, bne_iff_ne]; omega
    clear hk hlt ha
    go_enter Tryz.func34, Tryz.ntmps34
    go_wp2_with fail
    with_reducible refine (rnum_any ρ σ 2 2 _ h (Nat.le_refl 2) (lhid rfl)).mono ?_
    rintro e w1 ⟨rfl, hr, ho⟩
    rw [HK.out] at hr ⊢
    have HR := lhid hr
    have HO := lhid ho
    clear hr ho
    go_wp2_with fail
    with_reducible refine (rwrong_any ρ τ 22 22 (by decide) _ HR (lhid rfl)).mono ?_
    rintro e w2 ⟨rfl, hr, ho⟩
    have HR2 := lhid hr
    have HO2 := lhid (HO.out.trans ho)
    clear hr ho
    go_wp2_with fail
    go_ret
    rw [HE.out]
    exact ⟨rfl, HR2.out, HO2.out⟩
set_option maxHeartbeats 4000000 in
set_option maxRecDepth 100000 in
theorem rtext_any (ρ : Rc) (σ : Sg) (k : Nat) (k' : Int) (w : World) (h : Hid (Rf ρ σ w)) (hkk : Hid (k' = k)) :
    Calls Tryz.prog 74 #[.pointer (some ⟨ρ.M, 0, none⟩), .int .i64 k'] w (RO ρ (rTxt ρ.L k σ).2 (.string (tx (rTxt ρ.L k σ).1)) w) := by
  obtain ⟨⟨i, τ⟩, hi⟩ : ∃ p, rNum 2 σ = p := ⟨_, rfl⟩
  have HK := lhid hi
  by_cases h0 : τ.1 = 0
  · cases hc : kAt1 ρ.L i k with
    | none =>
      have HE : Hid (rTxt ρ.L k σ = ([], (12, τ.2))) := lhid (by unfold rTxt; rw [hi]; simp only []; rw [if_neg (by rw [h0]; simp), hc])
      have hwr : wrS 12 τ = (12, τ.2) := wrS_new 12 h0
      have HWR := lhid hwr
      have H0 := lhid h0
      have t0 : ((τ.1 : Int) != 0) = false := by rw [h0]; rfl
      have hcase : i = 0 ∨ (0 < i ∧ ρ.L.length ≤ i) ∨ (0 < i ∧ ∃ x, ρ.L[i]? = some x ∧ x.kind ≠ k) := by
        by_cases hi0 : i = 0
        · exact .inl hi0
        · unfold kAt1 at hc
          rw [if_neg hi0] at hc
          rcases kAt_none hc with h1 | h1
          · exact .inr (.inl ⟨by omega, h1⟩)
          · exact .inr (.inr ⟨by omega, h1⟩)
      clear hc hwr h0 hi
      rcases hcase with rfl | ⟨hpos, hl⟩ | ⟨hpos, x, hx, hne⟩
      · go_enter Tryz.func74, Tryz.ntmps74
        go_wp2_with fail
        with_reducible refine (rnum_any ρ σ 2 2 _ h (Nat.le_refl 2) (lhid rfl)).mono ?_
        rintro e w1 ⟨rfl, hr, ho⟩
        rw [HK.out] at hr ⊢
        have HR := lhid hr
        have HO := lhid ho
        have c4 := hr.c4
        clear hr ho
        go_wp2_with fail
        with_reducible refine (rwrong_any ρ τ 12 12 (by decide) _ HR (lhid rfl)).mono ?_
        rintro e w2 ⟨rfl, hr, ho⟩
        rw [HWR.out] at hr
        have HR2 := lhid hr
        have HO2 := lhid (HO.out.trans ho)
        clear hr ho
        go_wp2_with fail
        go_ret
        rw [HE.out]
        exact ⟨rfl, HR2.out, HO2.out⟩
      · have t1 : ¬ (i : Int) < 1 := by omega
        have t2 : (ρ.L.length : Int) ≤ i := by omega
        go_enter Tryz.func74, Tryz.ntmps74
        go_wp2_with fail
        with_reducible refine (rnum_any ρ σ 2 2 _ h (Nat.le_refl 2) (lhid rfl)).mono ?_
        rintro e w1 ⟨rfl, hr, ho⟩
        rw [HK.out] at hr ⊢
        have HR := lhid hr
        have HO := lhid ho
        have c4 := hr.c4
        have c3 := hr.c3
        have hpl := hr.pool H0.out
        rw [hpl.1] at c3
        clear hr ho hpl
        go_wp2_with fail
        with_reducible refine (rwrong_any ρ τ 12 12 (by decide) _ HR (lhid rfl)).mono ?_
        rintro e w2 ⟨rfl, hr, ho⟩
        rw [HWR.out] at hr
        have HR2 := lhid hr
        have HO2 := lhid (HO.out.trans ho)
        clear hr ho
        go_wp2_with fail
        go_ret
        rw [HE.out]
        exact ⟨rfl, HR2.out, HO2.out⟩
      · have t1 : ¬ (i : Int) < 1 := by omega
        have hil := (List.getElem?_eq_some_iff.1 hx).1
        have t2 : ¬ (ρ.L.length : Int) ≤ i := by omega
        have t2' : (i : Int) < ρ.L.length := by omega
        have t3 : ((x.kind : Int) != k') = true := by rw [bne_iff_ne, hkk.out]; omega
        have HXX := lhid hx
        clear hx hne
        go_enter Tryz.func74, Tryz.ntmps74
        go_wp2_with fail
        with_reducible refine (rnum_any ρ σ 2 2 _ h (Nat.le_refl 2) (lhid rfl)).mono ?_
        rintro e w1 ⟨rfl, hr, ho⟩
        rw [HK.out] at hr ⊢
        have HR := lhid hr
        have HO := lhid ho
        have c4 := hr.c4
        have c3 := hr.c3
        have hpl := hr.pool H0.out
        rw [hpl.1] at c3
        obtain ⟨a0, a1, a2, a3, a4⟩ := con_at hpl.2.1 HXX.out
        clear hr ho hpl a1 a2 a3 a4
        go_wp2_with fail
        with_reducible refine (rwrong_any ρ τ 12 12 (by decide) _ HR (lhid rfl)).mono ?_
        rintro e w2 ⟨rfl, hr, ho⟩
        rw [HWR.out] at hr
        have HR2 := lhid hr
        have HO2 := lhid (HO.out.trans ho)
        clear hr ho
        go_wp2_with fail
        go_ret
        rw [HE.out]
        exact ⟨rfl, HR2.out, HO2.out⟩
    | some c =>
      have HE : Hid (rTxt ρ.L k σ = (c.text, τ)) := lhid (by unfold rTxt; rw [hi]; simp only []; rw [if_neg (by rw [h0]; simp), hc])
      have H0 := lhid h0
      have t0 : ((τ.1 : Int) != 0) = false := by rw [h0]; rfl
      unfold kAt1 at hc
      by_cases hi0 : i = 0
      · rw [if_pos hi0] at hc; cases hc
      rw [if_neg hi0] at hc
      obtain ⟨hx, hxk⟩ := kAt_some hc
      have t1 : ¬ (i : Int) < 1 := by omega
      have hil := (List.getElem?_eq_some_iff.1 hx).1
      have t2 : ¬ (ρ.L.length : Int) ≤ i := by omega
      have t2' : (i : Int) < ρ.L.length := by omega
      have t3 : ((c.kind : Int) != k') = false := by rw [bne_eq_false_iff_eq, hkk.out]; omega
      have HXX := lhid hx
      clear hx hxk hc h0 hi
      go_enter Tryz.func74, Tryz.ntmps74
      go_wp2_with fail
      with_reducible refine (rnum_any ρ σ 2 2 _ h (Nat.le_refl 2) (lhid rfl)).mono ?_
      rintro e w1 ⟨rfl, hr, ho⟩
      rw [HK.out] at hr ⊢
      have HR := lhid hr
      have HO := lhid ho
      have c4 := hr.c4
      have c3 := hr.c3
      have hpl := hr.pool H0.out
      rw [hpl.1] at c3
      obtain ⟨a0, a1, a2, a3, a4⟩ := con_at hpl.2.1 HXX.out
      clear hr ho hpl a1 a3 a4
      go_wp2_with fail
      go_ret
      rw [HE.out]
      exact ⟨rfl, HR.out, HO.out⟩
  · have HE : Hid (rTxt ρ.L k σ = ([], τ)) := lhid (by unfold rTxt; rw [hi]; simp only []; rw [if_pos h0])
    have t0 : ((τ.1 : Int) != 0) = true := by rw [bne_iff_ne]; omega
    clear hi h0
    go_enter Tryz.func74, Tryz.ntmps74
    go_wp2_with fail
    with_reducible refine (rnum_any ρ σ 2 2 _ h (Nat.le_refl 2) (lhid rfl)).mono ?_
    rintro e w1 ⟨rfl, hr, ho⟩
    rw [HK.out] at hr ⊢
    have HR := lhid hr
    have HO := lhid ho
    have c4 := hr.c4
    clear hr ho
    go_wp2_with fail
    go_ret
    rw [HE.out]
    exact ⟨rfl, HR.out, HO.out⟩
end Go.Proofs.YtdlmadckpcnkoaaGreat
