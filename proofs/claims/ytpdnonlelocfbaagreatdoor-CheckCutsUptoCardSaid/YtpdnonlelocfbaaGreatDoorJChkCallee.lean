/- Package check: callee. -/
import Derived.Test.YtpdnonlelocfbaaGreatDoorJChkField
import Derived.Deep.MidRow
import Derived.Deep.RegionWith
namespace Go.Proofs.YtpdnonlelocfbaaGreatDoor
open Go.RowKit Go Go.Maps
set_option linter.unusedVariables false
section
variable {E : Chk} {Z : Nat → Prop} {wT : World} {c : Nat} {F : Fx} {N : Nat} {s : Cs} {kn : Bool} {st : Value} {w : World}
def calleeP (s1 : Cs) (E : Chk) (t : Bs) (th : Bool) (fl : Int) (tm : Bool) (mf : Int) (b185 b184 b183 : Bool) : Cs :=
  let s2 := s1.refuse (!th || bIface fl != b185) 70
  let s3 := s2.refuse (!tm || bStat mf != b184) 70
  if b183 then s3.refuse (bAbs mf || !E.fits E.own (E.of t)) 70 else s3
theorem callee_eq (s : Cs) (E : Chk) (o : Int) (a : Nat) (k : Int) (hk : (if o = 185 then 11 else 10) = k) : s.callee E o a = ((s.pooled E a [k]).1, calleeP (s.pooled E a [k]).2 E (s.pooled E a [k]).1.text (E.cls (s.pooled E a [k]).1.text).isSome ((E.cls (s.pooled E a [k]).1.text).getD 0) (E.meth (s.pooled E a [k]).1.text (s.pooled E a [k]).1.name (s.pooled E a [k]).1.desc).isSome ((E.meth (s.pooled E a [k]).1.text (s.pooled E a [k]).1.name (s.pooled E a [k]).1.desc).getD 0) (decide (o = 185)) (decide (o = 184)) (decide (o = 183))) := by
  unfold Cs.callee calleeP
  dsimp only
  rw [hk, show ∀ q : Option Int, q.isNone = !q.isSome from fun q => by cases q <;> rfl, show ∀ q : Option Int, q.isNone = !q.isSome from fun q => by cases q <;> rfl]
  by_cases h : o = 183 <;> simp [h]
theorem meth_y {tb : Nat} (HE : Env E tb wT) (x n d : Bs) (w : World) (hx : x.length ≤ ML) (hb : Below wT.heap.size wT w) : Calls Tryz.prog 71 #[.pointer (some ⟨tb, 0, none⟩), .string (tx x), .string (tx n), .string (tx d)] w fun e w' =>
    (∃ (o : Bs) (Y : List Value), e = .returned (.tuple #[.string (tx o), .agg Y.toArray, .bool (E.meth x n d).isSome]) ∧ Y.length = 8 ∧ (∀ v ∈ Y, v.oneCell' = true) ∧ Y[0]? = some (.int .i64 ((E.meth x n d).getD 0))) ∧ Below w.heap.size w w' := by
  refine (HE.meth x n d w hx hb).mono ?_
  rintro e w' ⟨⟨o, a1, a2, a3, a4, A, B, C, l1, l2, l3, c1, c2, c3, rfl⟩, hb⟩
  exact ⟨⟨o, [.int .i64 ((E.meth x n d).getD 0), .string (tx a1), .string (tx a2), .int .i64 a3, .int .i64 a4, .slice A l1 c1, .slice B l2 c2, .slice C l3 c3], rfl, rfl, by simp [Value.oneCell'], rfl⟩, hb⟩
theorem below_put {B b : Nat} {a w : World} (h : Below B a w) (hb : B ≤ b) (o : Nat) (vs : List Value) : Below B a (w.setCells b o vs) := by
  have hr := setCells_rest b vs o w
  exact ⟨hr.1.trans h.os, hr.2.1.trans h.tape, hr.2.2.trans h.output, by rw [setCells_size]; exact h.size, fun k hk => by rw [setCells_other (by omega)]; exact h.block k hk⟩
theorem und_me : Tryz.prog.underlying 27 = Tryz.prog.underlying 27 := rfl
theorem sz_me : (Tryz.prog.info? 27).map (·.size) = some 8 := by kernel_rfl
/-- A method's cells are stored as one. -/
theorem put_me {W : World} {g : Nat} {cs : Array Value} {Y : List Value} (h : W.heap[g]? = some (.cells cs 27 (0, 0))) (hs : cs.size = 8) (hY : Y.length = 8) (h1 : ∀ v ∈ Y, v.oneCell' = true) :
    (storeCells ⟨g, 0, none⟩ Y).run Tryz.prog W = .ok () (W.setCells g 0 Y) ∧ ∀ v, Y[0]? = some v → (W.setCells g 0 Y).cell? ⟨g, 0, none⟩ = some v := by
  have ht : W.there g 0 8 := fun j hj => ⟨by rw [Nat.zero_add, heap_cell h (Array.getElem?_eq_getElem (by omega))]; rfl, heap_thaw h _⟩
  have h2 := run_storeCells_cells (P := Tryz.prog) g 0 Y 0 W (fun j hj => by simpa using (ht j (by omega)).1) (fun j hj => by simpa using (ht j (by omega)).2) h1
  refine ⟨by simpa using h2, fun v hv => ?_⟩
  have := World.rangeAt_setCells_same W g 0 Y (by rw [hY]; exact ht) 0 v hv
  simpa using this
set_option maxHeartbeats 16000000 in
set_option maxRecDepth 100000 in
theorem callee_c (HE : Hid (Env E F.tb wT)) (HF : Hid (Fit E F wT)) (HC : Hid (Ck E Z wT c F N s kn st w)) (p o : Int) (a : Nat) (q : Int) (ha : a ≤ 4294967296) (hN : N ≤ 8589934592) :
    Calls Tryz.prog 220 #[.pointer (some ⟨c, 0, none⟩), .agg #[.int .i64 p, .int .i64 o, .int .i64 a, .int .i64 q]] w (CkOut E Z wT c F (N + 1) ((s.callee E o a).2) kn st w (.returned (coV (s.callee E o a).1))) := by
  have hb00 : Below w.heap.size w (w.alloc (.cells #[.int .i64 p, .int .i64 o, .int .i64 a, .int .i64 q] 187)) := (Below.refl _ _).alloc (Nat.le_refl _) _
  have hb0 : Below w.heap.size w ((w.alloc (.cells #[.int .i64 p, .int .i64 o, .int .i64 a, .int .i64 q] 187)).alloc (.cells #[.int .i64 0, .int .i64 0, .string ⟨#[]⟩, .string ⟨#[]⟩, .string ⟨#[]⟩] 213)) := hb00.alloc hb00.size _
  have hb01 : Below (w.alloc (.cells #[.int .i64 p, .int .i64 o, .int .i64 a, .int .i64 q] 187)).heap.size (w.alloc (.cells #[.int .i64 p, .int .i64 o, .int .i64 a, .int .i64 q] 187)) ((w.alloc (.cells #[.int .i64 p, .int .i64 o, .int .i64 a, .int .i64 q] 187)).alloc (.cells #[.int .i64 0, .int .i64 0, .string ⟨#[]⟩, .string ⟨#[]⟩, .string ⟨#[]⟩] 213)) := (Below.refl _ _).alloc (Nat.le_refl _) _
  have hsz : (w.alloc (.cells #[.int .i64 p, .int .i64 o, .int .i64 a, .int .i64 q] 187)).heap.size = w.heap.size + 1 := by simp
  have hz0 : ((w.alloc (.cells #[.int .i64 p, .int .i64 o, .int .i64 a, .int .i64 q] 187)).alloc (.cells #[.int .i64 0, .int .i64 0, .string ⟨#[]⟩, .string ⟨#[]⟩, .string ⟨#[]⟩] 213)).heap[w.heap.size]? = some (.cells #[.int .i64 p, .int .i64 o, .int .i64 a, .int .i64 q] 187 (0, 0)) := (Below.heap_alloc _ _ _ (by simp)).trans (heap_alloc_new w (.cells #[.int .i64 p, .int .i64 o, .int .i64 a, .int .i64 q] 187))
  have hzR : ((w.alloc (.cells #[.int .i64 p, .int .i64 o, .int .i64 a, .int .i64 q] 187)).alloc (.cells #[.int .i64 0, .int .i64 0, .string ⟨#[]⟩, .string ⟨#[]⟩, .string ⟨#[]⟩] 213)).heap[w.heap.size + 1]? = some (.cells #[.int .i64 0, .int .i64 0, .string ⟨#[]⟩, .string ⟨#[]⟩, .string ⟨#[]⟩] 213 (0, 0)) := by
    have := heap_alloc_new (w.alloc (.cells #[.int .i64 p, .int .i64 o, .int .i64 a, .int .i64 q] 187)) (.cells #[.int .i64 0, .int .i64 0, .string ⟨#[]⟩, .string ⟨#[]⟩, .string ⟨#[]⟩] 213)
    rw [hsz] at this
    exact this
  have HB0 := lhid hb0
  have HZ0 := lhid hz0
  have HZR := lhid hzR
  have HK0 : Hid (Ck E (fun k => (Z k ∧ k ≠ w.heap.size) ∧ k ≠ w.heap.size + 1) wT c F N s kn st ((w.alloc (.cells #[.int .i64 p, .int .i64 o, .int .i64 a, .int .i64 q] 187)).alloc (.cells #[.int .i64 0, .int .i64 0, .string ⟨#[]⟩, .string ⟨#[]⟩, .string ⟨#[]⟩] 213))) := lhid ((HC.out.box hb00 (Nat.le_refl _) (by simp)).box hb01 (by rw [hsz]; exact Nat.le_refl _) (by simp))
  have b1 : ((w.alloc (.cells #[.int .i64 p, .int .i64 o, .int .i64 a, .int .i64 q] 187)).alloc (.cells #[.int .i64 0, .int .i64 0, .string ⟨#[]⟩, .string ⟨#[]⟩, .string ⟨#[]⟩] 213)).cell? ⟨w.heap.size, 1, none⟩ = some (.int .i64 o) := heap_cell hz0 rfl
  have b2 : ((w.alloc (.cells #[.int .i64 p, .int .i64 o, .int .i64 a, .int .i64 q] 187)).alloc (.cells #[.int .i64 0, .int .i64 0, .string ⟨#[]⟩, .string ⟨#[]⟩, .string ⟨#[]⟩] 213)).cell? ⟨w.heap.size, 2, none⟩ = some (.int .i64 a) := heap_cell hz0 rfl
  clear hb00 hb0 hb01 hsz hz0 hzR
  obtain ⟨b184, hq4⟩ : ∃ q, decide (o = 184) = q := ⟨_, rfl⟩
  obtain ⟨b183, hq3⟩ : ∃ q, decide (o = 183) = q := ⟨_, rfl⟩
  have d184 : (o == 184) = b184 := by rw [← hq4, Bool.eq_iff_iff]; simp
  have d183 : (o == 183) = b183 := by rw [← hq3, Bool.eq_iff_iff]; simp
  go_enter Tryz.func220, Tryz.ntmps220
  by_cases h0 : o = 185
  · have hCE := callee_eq s E o a 11 (if_pos h0)
    rw [show decide (o = 185) = true from decide_eq_true h0, hq4, hq3] at hCE
    have d185 : (o == 185) = true := by rw [h0]; rfl
    clear h0 hq4 hq3
    go_upto_region 4 with fail
    generalize ((w.alloc (.cells #[.int .i64 p, .int .i64 o, .int .i64 a, .int .i64 q] 187)).alloc (.cells #[.int .i64 0, .int .i64 0, .string ⟨#[]⟩, .string ⟨#[]⟩, .string ⟨#[]⟩] 213)) = w0 at *
    go_wp2_with fail
    with_reducible refine (pooled1_c HE HF HK0 a ha 11).mono ?_
    rintro e w1 ⟨rfl, hk, hc⟩
    obtain ⟨x, hx⟩ : ∃ x, (s.pooled E a [11]).1 = x := ⟨_, rfl⟩
    obtain ⟨s1, hs1⟩ : ∃ x, (s.pooled E a [11]).2 = x := ⟨_, rfl⟩
    have HSM := lhid (pooled_small HE.out s a [11])
    rw [hx] at HSM hCE ⊢
    rw [hs1] at hk hCE
    unfold coV
    have HKb := lhid (hk.box ((Below.refl w1.heap.size w1).alloc (Nat.le_refl _) (.cells #[.int .i64 x.kind, .int .i64 x.num, .string (tx x.text), .string (tx x.name), .string (tx x.desc)] 213)) (Nat.le_refl _) (by simp))
    have HZ1 := lhid (heap_alloc_new w1 (.cells #[.int .i64 x.kind, .int .i64 x.num, .string (tx x.text), .string (tx x.name), .string (tx x.desc)] 213))
    have HW1 := lhid ((Below.refl w1.heap.size w1).alloc (Nat.le_refl _) (.cells #[.int .i64 x.kind, .int .i64 x.num, .string (tx x.text), .string (tx x.name), .string (tx x.desc)] 213))
    have HOB := lhid (hc.keep HZ0.out (fun h => h.1.2 rfl))
    have HRB := lhid (hc.keep HZR.out (fun h => h.2 rfl))
    have HOB2 := lhid ((HW1.out.block _ (heap_lt HOB.out)).trans HOB.out)
    have HRB2 := lhid ((HW1.out.block _ (heap_lt HRB.out)).trans HRB.out)
    have HT2 := lhid (((Ch.of (X := Z) HB0.out).tr (hc.mono fun _ _ h => h.1.1)).tr (Ch.of HW1.out))
    have HXT : Hid (x.text.length ≤ ML) := lhid (Nat.le_trans HSM.out.1 (by decide))
    have HOL : Hid ((E.of x.text).length ≤ ML) := lhid (by have h2 := HE.out.l_of x.text; have h3 : (4294967296 : Nat) + 2 ≤ ML := (by decide); have := HSM.out.1; omega)
    obtain ⟨fl, hfl⟩ : ∃ y, (E.cls x.text).getD 0 = y := ⟨_, rfl⟩
    obtain ⟨th, hth⟩ : ∃ y, (E.cls x.text).isSome = y := ⟨_, rfl⟩
    obtain ⟨mf, hmf⟩ : ∃ y, (E.meth x.text x.name x.desc).getD 0 = y := ⟨_, rfl⟩
    obtain ⟨tm, htm⟩ : ∃ y, (E.meth x.text x.name x.desc).isSome = y := ⟨_, rfl⟩
    obtain ⟨qi, hqi⟩ : ∃ y, (bits .and .i64 fl 512 != 0) = y := ⟨_, rfl⟩
    rw [hfl, hth, hmf, htm] at hCE
    have HQI : Hid (bIface fl = qi) := lhid (by rw [← flag_iface, hqi])
    have HFT := lhid (And.intro hfl (And.intro hth (And.intro hmf htm)))
    have HCE := lhid hCE
    clear hx hs1 hk hc hCE hfl hth hmf htm
    go_upto_region 5 with fail
    generalize w1.alloc (.cells #[.int .i64 x.kind, .int .i64 x.num, .string (tx x.text), .string (tx x.name), .string (tx x.desc)] 213) = w2 at *
    have x2 := heap_cell (i := 2) HZ1.out rfl
    go_wp2_with fail
    with_reducible refine (classFlags_c HE HKb x.text HXT.out hN).mono ?_
    rintro e w3 ⟨rfl, hk, hc⟩
    rw [HFT.out.1, HFT.out.2.1]
    have HK3 := lhid hk
    have HT3 := lhid (HT2.out.tr (hc.mono fun _ _ h => h.1.1.1))
    have HOB3 := lhid (hc.keep HOB2.out (fun h => h.1.1.2 rfl))
    have HRB3 := lhid (hc.keep HRB2.out (fun h => h.1.2 rfl))
    have HX3 := lhid (hc.keep HZ1.out (fun h => h.2 rfl))
    clear hk hc x2 b1 b2
    go_upto_region 7 with fail
    have o1 := heap_cell (i := 1) HOB3.out rfl
    go_cut [] from 32 (fun wx => Hid (Ck E (fun k => ((Z k ∧ k ≠ w.heap.size) ∧ k ≠ w.heap.size + 1) ∧ k ≠ w1.heap.size) wT c F (N + 1) (s1.refuse (!th || bIface fl != true) 70) kn st wx) ∧ Hid (Ch (fun k => ((Z k ∧ k ≠ w.heap.size) ∧ k ≠ w.heap.size + 1) ∧ k ≠ w1.heap.size) w3 wx))
    case first =>
      cases th with
      | false =>
        go_wp2_with fail
        with_reducible refine (refuse_b HK3 (b' := !false || bIface fl != true) ?hb 70).mono ?_
        case hb => rfl
        rintro e w4 ⟨rfl, hk, hc⟩
        have HK4 := lhid hk
        have HC4 := lhid hc
        clear hk hc
        go_wp2_with fail
        go_meet
        exact ⟨HK4, HC4⟩
      | true =>
        go_wp2_with fail
        with_reducible refine (refuse_b HK3 (b' := !true || bIface fl != true) ?hb 70).mono ?_
        case hb => rw [HQI.out]; cases qi <;> rfl
        rintro e w4 ⟨rfl, hk, hc⟩
        have HK4 := lhid hk
        have HC4 := lhid hc
        clear hk hc
        go_wp2_with fail
        go_meet
        exact ⟨HK4, HC4⟩
    case rest =>
      obtain ⟨HKc, HCc⟩ := hcut
      obtain ⟨wr, hwr⟩ : ∃ q, q = wc := ⟨_, rfl⟩
      subst hwr
      have HT4 := lhid (HT3.out.tr (HCc.out.mono fun _ _ h => h.1.1.1))
      have HOB4 := lhid (HCc.out.keep HOB3.out (fun h => h.1.1.2 rfl))
      have HRB4 := lhid (HCc.out.keep HRB3.out (fun h => h.1.2 rfl))
      have HX4 := lhid (HCc.out.keep HX3.out (fun h => h.2 rfl))
      clear o1
      obtain ⟨s2, hs2⟩ : ∃ q, s1.refuse (!th || bIface fl != true) 70 = q := ⟨_, rfl⟩
      rw [hs2] at HKc
      have HS2 := lhid hs2
      clear hs2
      have x2 := heap_cell (i := 2) HX4.out rfl
      have x3 := heap_cell (i := 3) HX4.out rfl
      have x4 := heap_cell (i := 4) HX4.out rfl
      have t0 := HKc.out.cell
      have hSS : ∀ w' : World, Below wr.heap.size wr w' → (w'.cell? ⟨c, 0, none⟩ = some (.pointer (some ⟨F.tb, 0, none⟩)) ∧ w'.cell? ⟨w1.heap.size, 2, none⟩ = some (.string (tx x.text)) ∧ w'.cell? ⟨w1.heap.size, 3, none⟩ = some (.string (tx x.name)) ∧ w'.cell? ⟨w1.heap.size, 4, none⟩ = some (.string (tx x.desc))) := fun w' hb => ⟨(hb.cell (p := ⟨c, 0, none⟩) (cell_lt t0)).trans t0, (hb.cell (p := ⟨w1.heap.size, 2, none⟩) (cell_lt x2)).trans x2, (hb.cell (p := ⟨w1.heap.size, 3, none⟩) (cell_lt x3)).trans x3, (hb.cell (p := ⟨w1.heap.size, 4, none⟩) (cell_lt x4)).trans x4⟩
      have HSS := lhid hSS
      clear hSS
      go_upto_region 8 with fail
      go_cut [8, 11] from 43 (fun t8 t11 wx => t8 = .bool tm ∧ ∃ FB : Nat, t11 = .pointer (some ⟨FB, 0, none⟩) ∧ Hid (wr.heap.size ≤ FB) ∧ Hid (wx.cell? ⟨FB, 0, none⟩ = some (.int .i64 mf)) ∧ Hid (Below wr.heap.size wr wx))
      case first =>
        go_region_held3 (fun w' => w'.cell? ⟨c, 0, none⟩ = some (.pointer (some ⟨F.tb, 0, none⟩)) ∧ w'.cell? ⟨w1.heap.size, 2, none⟩ = some (.string (tx x.text)) ∧ w'.cell? ⟨w1.heap.size, 3, none⟩ = some (.string (tx x.name)) ∧ w'.cell? ⟨w1.heap.size, 4, none⟩ = some (.string (tx x.desc))) (first | with_reducible exact HSS.out _ (Below.drew' (Below.refl _ _)) | with_reducible exact HSS.out _ (Below.drew' ((Below.refl _ _).alloc (Nat.le_refl _) _)) | with_reducible exact HSS.out _ (Below.alloc (Below.drew' (Below.refl _ _)) (Nat.le_refl _) _) | with_reducible exact HSS.out _ hb5 | with_reducible exact HSS.out _ hb5a | with_reducible exact HSS.out _ hb5b) (first
          | ((with_reducible refine (meth_y HE.out x.text x.name x.desc _ HXT.out (HKc.out.below (Below.drew' (Below.refl _ _))).std).mono ?_); rintro e w5 ⟨⟨on, Y, rfl, hY8, hY1, hY0⟩, hb5'⟩; have hb5 : Below wr.heap.size wr w5 := ⟨hb5'.os, hb5'.tape, hb5'.output, hb5'.size, hb5'.block⟩; rw [HFT.out.2.2.1] at hY0; rw [HFT.out.2.2.2]; have hb5a : Below wr.heap.size wr (w5.alloc (.cells #[.int .i64 0, .string ⟨#[]⟩, .string ⟨#[]⟩, .int .i64 0, .int .i64 0, .slice none 0 0, .slice none 0 0, .slice none 0 0] 27)) := Below.alloc hb5 hb5.size _; have hb5b : Below wr.heap.size wr ((w5.alloc (.cells #[.int .i64 0, .string ⟨#[]⟩, .string ⟨#[]⟩, .int .i64 0, .int .i64 0, .slice none 0 0, .slice none 0 0, .slice none 0 0] 27)).setCells w5.heap.size 0 Y) := below_put hb5a hb5.size 0 Y; have hput := put_me (heap_alloc_new w5 (.cells #[.int .i64 0, .string ⟨#[]⟩, .string ⟨#[]⟩, .int .i64 0, .int .i64 0, .slice none 0 0, .slice none 0 0, .slice none 0 0] 27)) rfl hY8 hY1; have hput1 := hput.1; have hput2 := hput.2 _ hY0; clear hput)
          | ((with_reducible refine (meth_y HE.out x.text x.name x.desc _ HXT.out (HKc.out.below (Below.drew' ((Below.refl _ _).alloc (Nat.le_refl _) (.cells #[.int .i64 0, .string ⟨#[]⟩, .string ⟨#[]⟩, .int .i64 0, .int .i64 0, .slice none 0 0, .slice none 0 0, .slice none 0 0] 27)))).std).mono ?_); rintro e w5 ⟨⟨on, Y, rfl, hY8, hY1, hY0⟩, hb5'⟩; have hb5 : Below wr.heap.size wr w5 := (Below.drew' ((Below.refl wr.heap.size wr).alloc (Nat.le_refl _) (.cells #[.int .i64 0, .string ⟨#[]⟩, .string ⟨#[]⟩, .int .i64 0, .int .i64 0, .slice none 0 0, .slice none 0 0, .slice none 0 0] 27))).trans (Below.less hb5' (by simp)); have hf5 : w5.heap[wr.heap.size]? = some (.cells #[.int .i64 0, .string ⟨#[]⟩, .string ⟨#[]⟩, .int .i64 0, .int .i64 0, .slice none 0 0, .slice none 0 0, .slice none 0 0] 27 (0, 0)) := (hb5'.block _ (by simp)).trans (heap_alloc_new wr (.cells #[.int .i64 0, .string ⟨#[]⟩, .string ⟨#[]⟩, .int .i64 0, .int .i64 0, .slice none 0 0, .slice none 0 0, .slice none 0 0] 27)); rw [HFT.out.2.2.1] at hY0; rw [HFT.out.2.2.2]; have hb5b : Below wr.heap.size wr (w5.setCells wr.heap.size 0 Y) := below_put hb5 (Nat.le_refl _) 0 Y; have hput := put_me hf5 rfl hY8 hY1; have hput1 := hput.1; have hput2 := hput.2 _ hY0; clear hput))
        · go_wp2_with fail
          go_meet
          exact ⟨rfl, w5.heap.size, rfl, lhid hb5.size, lhid hput2, lhid hb5b⟩
        · go_wp2_with fail
          go_meet
          exact ⟨rfl, wr.heap.size, rfl, lhid (Nat.le_refl _), lhid hput2, lhid hb5b⟩
      case rest =>
        obtain ⟨rfl, FB, rfl, hFB, HMB, HBW⟩ := hcut
        obtain ⟨w6, hw6⟩ : ∃ q, q = wc := ⟨_, rfl⟩
        subst hw6
        have HK6 := lhid (HKc.out.box HBW.out hFB.out (cell_lt HMB.out))
        have HT6 := lhid (HT4.out.tr (Ch.of HBW.out))
        have HOB6 := lhid ((HBW.out.block _ (heap_lt HOB4.out)).trans HOB4.out)
        have HRB6 := lhid ((HBW.out.block _ (heap_lt HRB4.out)).trans HRB4.out)
        have HX6 := lhid ((HBW.out.block _ (heap_lt HX4.out)).trans HX4.out)
        clear t0 x2 x3 x4
        have o1 := heap_cell (i := 1) HOB6.out rfl
        have m0 := HMB.out
        have HM9 : Hid (∀ w', Ch (fun k => (((Z k ∧ k ≠ w.heap.size) ∧ k ≠ w.heap.size + 1) ∧ k ≠ w1.heap.size) ∧ k ≠ FB) w6 w' → (w'.cell? ⟨FB, 0, none⟩ = some (.int .i64 mf) ∧ w'.cell? ⟨w.heap.size, 1, none⟩ = some (.int .i64 o))) := lhid (fun w' hc => ⟨(cell_heap (hc.block _ (cell_lt HMB.out) (fun h => h.2 rfl)) 0).trans HMB.out, heap_cell (hc.keep HOB6.out (fun h => h.1.1.1.2 rfl)) rfl⟩)
        have HKd := lhid HK6.out.drew
        go_upto_region 9 with fail
        go_cut [] from 58 (fun wx => Hid (Ck E (fun k => (((Z k ∧ k ≠ w.heap.size) ∧ k ≠ w.heap.size + 1) ∧ k ≠ w1.heap.size) ∧ k ≠ FB) wT c F (N + 1) (s2.refuse (!tm || bStat mf != b184) 70) kn st wx) ∧ Hid (Ch (fun k => (((Z k ∧ k ≠ w.heap.size) ∧ k ≠ w.heap.size + 1) ∧ k ≠ w1.heap.size) ∧ k ≠ FB) w6 wx))
        case first =>
          cases tm with
          | false =>
            refine wp_region_any (by kernel_rfl) ?_
            try (change wpAny _ _ _ _ _ _ _ (World.drew _))
            refine wpAny_take (i := 0) (v := ?v0_1) rfl (by kernel_rfl) (by kernel_rfl) (by kernel_rfl) (fun _ _ _ h => h) (Or.inl ⟨by rfl, ?hy0_1⟩) ?rest0_1
            case hy0_1 => intro w; (first | (go_simp; done) | (go_simp; with_reducible rfl))
            refine wpAny_take (i := 1) (v := ?v1_2) rfl (by kernel_rfl) (by kernel_rfl) (by kernel_rfl) (fun _ _ _ h => h) (Or.inl ⟨by rfl, ?hy1_2⟩) ?rest1_2
            case hy1_2 => intro w; (first | (go_simp; done) | (go_simp; with_reducible rfl))
            refine wpAny_take (i := 2) (v := ?v2_3) rfl (by kernel_rfl) (by kernel_rfl) (by kernel_rfl) (fun _ _ _ h => h) (Or.inl ⟨by rfl, ?hy2_3⟩) ?rest2_3
            case hy2_3 => intro w; (first | (go_simp; done) | (go_simp; with_reducible rfl))
            refine wpAny_take (i := 3) (v := ?v3_4) rfl (by kernel_rfl) (by kernel_rfl) (by kernel_rfl) (fun _ _ _ h => h) (Or.inl ⟨by rfl, ?hy3_4⟩) ?rest3_4
            case hy3_4 => intro w; (first | (go_simp; done) | (go_simp; with_reducible rfl))
            refine wpAny_take (i := 4) (v := undef) rfl (by kernel_rfl) (by kernel_rfl) (by kernel_rfl) (fun _ _ _ h => h) (Or.inr ⟨by kernel_rfl, rfl⟩) ?rest4_5
            refine wpAny_take (i := 5) (v := undef) rfl (by kernel_rfl) (by kernel_rfl) (by kernel_rfl) (fun _ _ _ h => h) (Or.inr ⟨by kernel_rfl, rfl⟩) ?rest5_6
            refine wpAny_take (i := 6) (v := undef) rfl (by kernel_rfl) (by kernel_rfl) (by kernel_rfl) (fun _ _ _ h => h) (Or.inr ⟨by kernel_rfl, rfl⟩) ?rest6_7
            refine wpAny_take (i := 7) (v := undef) rfl (by kernel_rfl) (by kernel_rfl) (by kernel_rfl) (fun _ _ _ h => h) (Or.inr ⟨by kernel_rfl, rfl⟩) ?rest7_8
            refine wpAny_take (i := 8) (v := undef) rfl (by kernel_rfl) (by kernel_rfl) (by kernel_rfl) (fun _ _ _ h => h) (Or.inr ⟨by kernel_rfl, rfl⟩) ?rest8_9
            refine wpAny_take (i := 9) (v := undef) rfl (by kernel_rfl) (by kernel_rfl) (by kernel_rfl) (fun _ _ _ h => h) (Or.inr ⟨by kernel_rfl, rfl⟩) ?rest9_10
            refine wpAny_take (i := 10) (v := undef) rfl (by kernel_rfl) (by kernel_rfl) (by kernel_rfl) (fun _ _ _ h => h) (Or.inr ⟨by kernel_rfl, rfl⟩) ?rest10_11
            refine wpAny_take (i := 11) (v := ?v11_12) rfl (by kernel_rfl) (by kernel_rfl) (by kernel_rfl) (fun _ _ _ h => h) (Or.inl ⟨by rfl, ?hy11_12⟩) ?rest11_12
            case hy11_12 => intro w; (first | (go_simp; done) | (go_simp; with_reducible rfl))
            refine wpAny_ready (rs := [12]) (by kernel_rfl) (by simp) ?_
            refine AllReady.cons rfl (fun K hK => ?_) AllReady.nil
            go_simp
            with_reducible refine (refuse_b HKd (b' := !false || bStat mf != b184) ?hb 70).mono ?_
            case hb => rfl
            rintro e w7 ⟨rfl, hk7, hc7'⟩
            have hc7 := (Ch.drew (Ch.refl (fun k => (((Z k ∧ k ≠ w.heap.size) ∧ k ≠ w.heap.size + 1) ∧ k ≠ w1.heap.size) ∧ k ≠ FB) w6)).tr hc7'
            dsimp only
            refine hK _ _ ?_
            clear hK K
            refine wpAny_done (by kernel_rfl) ?_ _
            go_wp2_with fail
            go_meet
            exact ⟨lhid hk7, lhid hc7⟩
          | true =>
            go_region_held3 (fun w' => w'.cell? ⟨FB, 0, none⟩ = some (.int .i64 mf) ∧ w'.cell? ⟨w.heap.size, 1, none⟩ = some (.int .i64 o)) (first | with_reducible exact HM9.out _ (Ch.drew (Ch.refl _ _)) | with_reducible exact HM9.out _ hc7) (first
              | ((with_reducible refine (isStatic_c mf _).mono ?_); rintro e w9 ⟨rfl, rfl⟩)
              | ((with_reducible refine (refuse_b HKd (b' := !true || bStat mf != b184) ?hb 70).mono ?_); (case hb => cases bStat mf <;> rfl); rintro e w7 ⟨rfl, hk7, hc7'⟩; have hc7 := (Ch.drew (Ch.refl (fun k => (((Z k ∧ k ≠ w.heap.size) ∧ k ≠ w.heap.size + 1) ∧ k ≠ w1.heap.size) ∧ k ≠ FB) w6)).tr hc7'))
            go_wp2_with fail
            go_meet
            exact ⟨lhid hk7, lhid hc7⟩
        case rest =>
          obtain ⟨HK8, HC8⟩ := hcut
          obtain ⟨w8, hw8⟩ : ∃ q, q = wc := ⟨_, rfl⟩
          subst hw8
          clear o1 m0 HKd
          have o1 := (HM9.out _ HC8.out).2
          have m0 := (HM9.out _ HC8.out).1
          cases b183 with
          | false =>
            have HTn := lhid (HT6.out.tr (HC8.out.mono fun _ _ h => h.1.1.1.1))
            have hRn := HC8.out.keep HRB6.out (fun h => h.1.1.2 rfl)
            have hXn := HC8.out.keep HX6.out (fun h => h.1.2 rfl)
            have hkZ := HK8.out.unbox HC.out (fun _ h => h.1.1.1.1) HTn.out.size
            obtain ⟨hkF, hcF, hrF⟩ := hkZ.five hRn (by decide) (by decide) (HC.out.new _ (Nat.le_succ _)) (.int .i64 x.kind) (.int .i64 x.num) (.string (tx x.text)) (.string (tx x.name)) (.string (tx x.desc))
            have HKF := lhid hkF
            have HCF := lhid (HTn.out.tr hcF)
            have m0 := heap_cell (i := 0) hXn rfl
            have r0 := heap_cell (i := 0) hRn rfl
            have z0 := heap_thaw hRn 0
            have q0 := heap_cell (i := 0) hrF rfl
            have m1 := heap_cell (i := 1) hXn rfl
            have r1 := heap_cell (i := 1) hRn rfl
            have z1 := heap_thaw hRn 1
            have q1 := heap_cell (i := 1) hrF rfl
            have m2 := heap_cell (i := 2) hXn rfl
            have r2 := heap_cell (i := 2) hRn rfl
            have z2 := heap_thaw hRn 2
            have q2 := heap_cell (i := 2) hrF rfl
            have m3 := heap_cell (i := 3) hXn rfl
            have r3 := heap_cell (i := 3) hRn rfl
            have z3 := heap_thaw hRn 3
            have q3 := heap_cell (i := 3) hrF rfl
            have m4 := heap_cell (i := 4) hXn rfl
            have r4 := heap_cell (i := 4) hRn rfl
            have z4 := heap_thaw hRn 4
            have q4 := heap_cell (i := 4) hrF rfl
            clear hkF hcF hrF hkZ hRn hXn
            go_wp2_with fail
            refine bodyPost_ret (v := coV x) (by simp [results, Tryz.results220, go_sem, coV, q0, q1, q2, q3, q4]) rfl ?_
            rw [HCE.out]
            exact ⟨rfl, by rw [← HS2.out] at HKF; exact HKF.out, HCF.out⟩
          | true =>
            obtain ⟨qa, hqa⟩ : ∃ y, (bits .and .i64 mf 1024 != 0) = y := ⟨_, rfl⟩
            have HQA : Hid (bAbs mf = qa) := lhid (by rw [← flag_abs, hqa])
            have x2 := heap_cell (i := 2) (HC8.out.keep HX6.out (fun h => h.1.2 rfl)) rfl
            have t0 := HK8.out.cell
            have HKd := lhid HK8.out.drew
            have HX9 : Hid (∀ w', Ch (fun k => (((Z k ∧ k ≠ w.heap.size) ∧ k ≠ w.heap.size + 1) ∧ k ≠ w1.heap.size) ∧ k ≠ FB) w8 w' → w'.cell? ⟨w1.heap.size, 2, none⟩ = some (.string (tx x.text))) := lhid (fun w' hc => heap_cell (hc.keep (HC8.out.keep HX6.out (fun h => h.1.2 rfl)) (fun h => h.1.2 rfl)) rfl)
            obtain ⟨s3, hs3⟩ : ∃ q, s2.refuse (!tm || bStat mf != b184) 70 = q := ⟨_, rfl⟩
            rw [hs3] at HK8 HKd
            have HS3 := lhid hs3
            have HOW := HE.out.l_own
            clear hs3
            cases qa with
            | true =>
              go_upto_region 12 with fail
              refine wp_region_any (by kernel_rfl) ?_
              try (change wpAny _ _ _ _ _ _ _ (World.drew _))
              refine wpAny_take (i := 0) (v := ?v0_13) rfl (by kernel_rfl) (by kernel_rfl) (by kernel_rfl) (fun _ _ _ h => h) (Or.inl ⟨by rfl, ?hy0_13⟩) ?rest0_13
              case hy0_13 => intro w; (first | (go_simp; done) | (go_simp; with_reducible rfl))
              refine wpAny_take (i := 1) (v := ?v1_14) rfl (by kernel_rfl) (by kernel_rfl) (by kernel_rfl) (fun _ _ _ h => h) (Or.inl ⟨by rfl, ?hy1_14⟩) ?rest1_14
              case hy1_14 => intro w; (first | (go_simp; done) | (go_simp; with_reducible rfl))
              refine wpAny_take (i := 2) (v := ?v2_15) rfl (by kernel_rfl) (by kernel_rfl) (by kernel_rfl) (fun _ _ _ h => h) (Or.inl ⟨by rfl, ?hy2_15⟩) ?rest2_15
              case hy2_15 => intro w; (first | (go_simp; done) | (go_simp; with_reducible rfl))
              refine wpAny_take (i := 3) (v := undef) rfl (by kernel_rfl) (by kernel_rfl) (by kernel_rfl) (fun _ _ _ h => h) (Or.inr ⟨by kernel_rfl, rfl⟩) ?rest3_16
              refine wpAny_take (i := 4) (v := undef) rfl (by kernel_rfl) (by kernel_rfl) (by kernel_rfl) (fun _ _ _ h => h) (Or.inr ⟨by kernel_rfl, rfl⟩) ?rest4_17
              refine wpAny_take (i := 5) (v := undef) rfl (by kernel_rfl) (by kernel_rfl) (by kernel_rfl) (fun _ _ _ h => h) (Or.inr ⟨by kernel_rfl, rfl⟩) ?rest5_18
              refine wpAny_take (i := 6) (v := undef) rfl (by kernel_rfl) (by kernel_rfl) (by kernel_rfl) (fun _ _ _ h => h) (Or.inr ⟨by kernel_rfl, rfl⟩) ?rest6_19
              refine wpAny_take (i := 7) (v := undef) rfl (by kernel_rfl) (by kernel_rfl) (by kernel_rfl) (fun _ _ _ h => h) (Or.inr ⟨by kernel_rfl, rfl⟩) ?rest7_20
              refine wpAny_take (i := 8) (v := undef) rfl (by kernel_rfl) (by kernel_rfl) (by kernel_rfl) (fun _ _ _ h => h) (Or.inr ⟨by kernel_rfl, rfl⟩) ?rest8_21
              refine wpAny_take (i := 9) (v := undef) rfl (by kernel_rfl) (by kernel_rfl) (by kernel_rfl) (fun _ _ _ h => h) (Or.inr ⟨by kernel_rfl, rfl⟩) ?rest9_22
              refine wpAny_take (i := 10) (v := undef) rfl (by kernel_rfl) (by kernel_rfl) (by kernel_rfl) (fun _ _ _ h => h) (Or.inr ⟨by kernel_rfl, rfl⟩) ?rest10_23
              refine wpAny_take (i := 11) (v := undef) rfl (by kernel_rfl) (by kernel_rfl) (by kernel_rfl) (fun _ _ _ h => h) (Or.inr ⟨by kernel_rfl, rfl⟩) ?rest11_24
              refine wpAny_take (i := 12) (v := undef) rfl (by kernel_rfl) (by kernel_rfl) (by kernel_rfl) (fun _ _ _ h => h) (Or.inr ⟨by kernel_rfl, rfl⟩) ?rest12_25
              refine wpAny_take (i := 13) (v := undef) rfl (by kernel_rfl) (by kernel_rfl) (by kernel_rfl) (fun _ _ _ h => h) (Or.inr ⟨by kernel_rfl, rfl⟩) ?rest13_26
              refine wpAny_take (i := 14) (v := ?v14_27) rfl (by kernel_rfl) (by kernel_rfl) (by kernel_rfl) (fun _ _ _ h => h) (Or.inl ⟨by rfl, ?hy14_27⟩) ?rest14_27
              case hy14_27 => intro w; (first | (go_simp; done) | (go_simp; with_reducible rfl))
              refine wpAny_ready (rs := [15]) (by kernel_rfl) (by simp) ?_
              refine AllReady.cons rfl (fun K hK => ?_) AllReady.nil
              go_simp
              with_reducible refine (refuse_b HKd (b' := bAbs mf || !E.fits E.own (E.of x.text)) ?hb 70).mono ?_
              case hb => rw [HQA.out]; rfl
              rintro e w7 ⟨rfl, hk7, hc7'⟩
              have hc7 := (Ch.drew (Ch.refl (fun k => (((Z k ∧ k ≠ w.heap.size) ∧ k ≠ w.heap.size + 1) ∧ k ≠ w1.heap.size) ∧ k ≠ FB) w8)).tr hc7'
              dsimp only
              refine hK _ _ ?_
              clear hK K
              refine wpAny_done (by kernel_rfl) ?_ _
              have HK7 := lhid hk7
              have HC7 := lhid (HC8.out.tr hc7)
              clear hk7 hc7 hc7' o1 m0 x2 t0
              rw [← HS3.out] at HK7
              have HTn := lhid (HT6.out.tr (HC7.out.mono fun _ _ h => h.1.1.1.1))
              have hRn := HC7.out.keep HRB6.out (fun h => h.1.1.2 rfl)
              have hXn := HC7.out.keep HX6.out (fun h => h.1.2 rfl)
              have hkZ := HK7.out.unbox HC.out (fun _ h => h.1.1.1.1) HTn.out.size
              obtain ⟨hkF, hcF, hrF⟩ := hkZ.five hRn (by decide) (by decide) (HC.out.new _ (Nat.le_succ _)) (.int .i64 x.kind) (.int .i64 x.num) (.string (tx x.text)) (.string (tx x.name)) (.string (tx x.desc))
              have HKF := lhid hkF
              have HCF := lhid (HTn.out.tr hcF)
              have m0 := heap_cell (i := 0) hXn rfl
              have r0 := heap_cell (i := 0) hRn rfl
              have z0 := heap_thaw hRn 0
              have q0 := heap_cell (i := 0) hrF rfl
              have m1 := heap_cell (i := 1) hXn rfl
              have r1 := heap_cell (i := 1) hRn rfl
              have z1 := heap_thaw hRn 1
              have q1 := heap_cell (i := 1) hrF rfl
              have m2 := heap_cell (i := 2) hXn rfl
              have r2 := heap_cell (i := 2) hRn rfl
              have z2 := heap_thaw hRn 2
              have q2 := heap_cell (i := 2) hrF rfl
              have m3 := heap_cell (i := 3) hXn rfl
              have r3 := heap_cell (i := 3) hRn rfl
              have z3 := heap_thaw hRn 3
              have q3 := heap_cell (i := 3) hrF rfl
              have m4 := heap_cell (i := 4) hXn rfl
              have r4 := heap_cell (i := 4) hRn rfl
              have z4 := heap_thaw hRn 4
              have q4 := heap_cell (i := 4) hrF rfl
              clear hkF hcF hrF hkZ hRn hXn
              go_wp2_with fail
              refine bodyPost_ret (v := coV x) (by simp [results, Tryz.results220, go_sem, coV, q0, q1, q2, q3, q4]) rfl ?_
              rw [HCE.out]
              exact ⟨rfl, by rw [← HS2.out] at HKF; exact HKF.out, HCF.out⟩
            | false =>
              go_upto_region 12 with fail
              go_region_held3 (fun w' => w'.cell? ⟨c, 0, none⟩ = some (.pointer (some ⟨F.tb, 0, none⟩)) ∧ w'.cell? ⟨w1.heap.size, 2, none⟩ = some (.string (tx x.text))) (first | with_reducible exact ⟨HKd.out.cell, HX9.out _ (Ch.drew (Ch.refl _ _))⟩ | with_reducible exact ⟨hk5.cell, HX9.out _ hc5⟩ | with_reducible exact ⟨hk7.cell, HX9.out _ hc7⟩) (first
                | ((with_reducible refine (ownType_c HE HF HKd).mono ?_); rintro e w9 ⟨rfl, rfl⟩)
                | ((with_reducible refine (HE.out.of x.text _ HXT.out).mono ?_); rintro e w9 ⟨rfl, rfl⟩)
                | ((with_reducible refine (HE.out.fits E.own (E.of x.text) _ HOW HOL.out HKd.out.std).mono ?_); rintro e w5 ⟨rfl, hb5⟩; have hk5 := HKd.out.below hb5; have hc5 := (Ch.drew (Ch.refl (fun k => (((Z k ∧ k ≠ w.heap.size) ∧ k ≠ w.heap.size + 1) ∧ k ≠ w1.heap.size) ∧ k ≠ FB) w8)).below hb5)
                | ((with_reducible refine (refuse_b (lhid hk5) (b' := bAbs mf || !E.fits E.own (E.of x.text)) ?hb 70).mono ?_); (case hb => rw [HQA.out]; rfl); rintro e w7 ⟨rfl, hk7, hc7'⟩; have hc7 := hc5.tr hc7'))
              have HK7 := lhid hk7
              have HC7 := lhid (HC8.out.tr hc7)
              clear hk7 hc7 hc7' hk5 hc5 hb5 o1 m0 x2 t0
              rw [← HS3.out] at HK7
              have HTn := lhid (HT6.out.tr (HC7.out.mono fun _ _ h => h.1.1.1.1))
              have hRn := HC7.out.keep HRB6.out (fun h => h.1.1.2 rfl)
              have hXn := HC7.out.keep HX6.out (fun h => h.1.2 rfl)
              have hkZ := HK7.out.unbox HC.out (fun _ h => h.1.1.1.1) HTn.out.size
              obtain ⟨hkF, hcF, hrF⟩ := hkZ.five hRn (by decide) (by decide) (HC.out.new _ (Nat.le_succ _)) (.int .i64 x.kind) (.int .i64 x.num) (.string (tx x.text)) (.string (tx x.name)) (.string (tx x.desc))
              have HKF := lhid hkF
              have HCF := lhid (HTn.out.tr hcF)
              have m0 := heap_cell (i := 0) hXn rfl
              have r0 := heap_cell (i := 0) hRn rfl
              have z0 := heap_thaw hRn 0
              have q0 := heap_cell (i := 0) hrF rfl
              have m1 := heap_cell (i := 1) hXn rfl
              have r1 := heap_cell (i := 1) hRn rfl
              have z1 := heap_thaw hRn 1
              have q1 := heap_cell (i := 1) hrF rfl
              have m2 := heap_cell (i := 2) hXn rfl
              have r2 := heap_cell (i := 2) hRn rfl
              have z2 := heap_thaw hRn 2
              have q2 := heap_cell (i := 2) hrF rfl
              have m3 := heap_cell (i := 3) hXn rfl
              have r3 := heap_cell (i := 3) hRn rfl
              have z3 := heap_thaw hRn 3
              have q3 := heap_cell (i := 3) hrF rfl
              have m4 := heap_cell (i := 4) hXn rfl
              have r4 := heap_cell (i := 4) hRn rfl
              have z4 := heap_thaw hRn 4
              have q4 := heap_cell (i := 4) hrF rfl
              clear hkF hcF hrF hkZ hRn hXn
              go_wp2_with fail
              refine bodyPost_ret (v := coV x) (by simp [results, Tryz.results220, go_sem, coV, q0, q1, q2, q3, q4]) rfl ?_
              rw [HCE.out]
              exact ⟨rfl, by rw [← HS2.out] at HKF; exact HKF.out, HCF.out⟩
  · have hCE := callee_eq s E o a 10 (if_neg h0)
    rw [show decide (o = 185) = false from decide_eq_false h0, hq4, hq3] at hCE
    have d185 := ne_beq h0
    clear h0 hq4 hq3
    go_upto_region 4 with fail
    generalize ((w.alloc (.cells #[.int .i64 p, .int .i64 o, .int .i64 a, .int .i64 q] 187)).alloc (.cells #[.int .i64 0, .int .i64 0, .string ⟨#[]⟩, .string ⟨#[]⟩, .string ⟨#[]⟩] 213)) = w0 at *
    go_wp2_with fail
    with_reducible refine (pooled1_c HE HF HK0 a ha 10).mono ?_
    rintro e w1 ⟨rfl, hk, hc⟩
    obtain ⟨x, hx⟩ : ∃ x, (s.pooled E a [10]).1 = x := ⟨_, rfl⟩
    obtain ⟨s1, hs1⟩ : ∃ x, (s.pooled E a [10]).2 = x := ⟨_, rfl⟩
    have HSM := lhid (pooled_small HE.out s a [10])
    rw [hx] at HSM hCE ⊢
    rw [hs1] at hk hCE
    unfold coV
    have HKb := lhid (hk.box ((Below.refl w1.heap.size w1).alloc (Nat.le_refl _) (.cells #[.int .i64 x.kind, .int .i64 x.num, .string (tx x.text), .string (tx x.name), .string (tx x.desc)] 213)) (Nat.le_refl _) (by simp))
    have HZ1 := lhid (heap_alloc_new w1 (.cells #[.int .i64 x.kind, .int .i64 x.num, .string (tx x.text), .string (tx x.name), .string (tx x.desc)] 213))
    have HW1 := lhid ((Below.refl w1.heap.size w1).alloc (Nat.le_refl _) (.cells #[.int .i64 x.kind, .int .i64 x.num, .string (tx x.text), .string (tx x.name), .string (tx x.desc)] 213))
    have HOB := lhid (hc.keep HZ0.out (fun h => h.1.2 rfl))
    have HRB := lhid (hc.keep HZR.out (fun h => h.2 rfl))
    have HOB2 := lhid ((HW1.out.block _ (heap_lt HOB.out)).trans HOB.out)
    have HRB2 := lhid ((HW1.out.block _ (heap_lt HRB.out)).trans HRB.out)
    have HT2 := lhid (((Ch.of (X := Z) HB0.out).tr (hc.mono fun _ _ h => h.1.1)).tr (Ch.of HW1.out))
    have HXT : Hid (x.text.length ≤ ML) := lhid (Nat.le_trans HSM.out.1 (by decide))
    have HOL : Hid ((E.of x.text).length ≤ ML) := lhid (by have h2 := HE.out.l_of x.text; have h3 : (4294967296 : Nat) + 2 ≤ ML := (by decide); have := HSM.out.1; omega)
    obtain ⟨fl, hfl⟩ : ∃ y, (E.cls x.text).getD 0 = y := ⟨_, rfl⟩
    obtain ⟨th, hth⟩ : ∃ y, (E.cls x.text).isSome = y := ⟨_, rfl⟩
    obtain ⟨mf, hmf⟩ : ∃ y, (E.meth x.text x.name x.desc).getD 0 = y := ⟨_, rfl⟩
    obtain ⟨tm, htm⟩ : ∃ y, (E.meth x.text x.name x.desc).isSome = y := ⟨_, rfl⟩
    obtain ⟨qi, hqi⟩ : ∃ y, (bits .and .i64 fl 512 != 0) = y := ⟨_, rfl⟩
    rw [hfl, hth, hmf, htm] at hCE
    have HQI : Hid (bIface fl = qi) := lhid (by rw [← flag_iface, hqi])
    have HFT := lhid (And.intro hfl (And.intro hth (And.intro hmf htm)))
    have HCE := lhid hCE
    clear hx hs1 hk hc hCE hfl hth hmf htm
    go_upto_region 5 with fail
    generalize w1.alloc (.cells #[.int .i64 x.kind, .int .i64 x.num, .string (tx x.text), .string (tx x.name), .string (tx x.desc)] 213) = w2 at *
    have x2 := heap_cell (i := 2) HZ1.out rfl
    go_wp2_with fail
    with_reducible refine (classFlags_c HE HKb x.text HXT.out hN).mono ?_
    rintro e w3 ⟨rfl, hk, hc⟩
    rw [HFT.out.1, HFT.out.2.1]
    have HK3 := lhid hk
    have HT3 := lhid (HT2.out.tr (hc.mono fun _ _ h => h.1.1.1))
    have HOB3 := lhid (hc.keep HOB2.out (fun h => h.1.1.2 rfl))
    have HRB3 := lhid (hc.keep HRB2.out (fun h => h.1.2 rfl))
    have HX3 := lhid (hc.keep HZ1.out (fun h => h.2 rfl))
    clear hk hc x2 b1 b2
    go_upto_region 7 with fail
    have o1 := heap_cell (i := 1) HOB3.out rfl
    go_cut [] from 32 (fun wx => Hid (Ck E (fun k => ((Z k ∧ k ≠ w.heap.size) ∧ k ≠ w.heap.size + 1) ∧ k ≠ w1.heap.size) wT c F (N + 1) (s1.refuse (!th || bIface fl != false) 70) kn st wx) ∧ Hid (Ch (fun k => ((Z k ∧ k ≠ w.heap.size) ∧ k ≠ w.heap.size + 1) ∧ k ≠ w1.heap.size) w3 wx))
    case first =>
      cases th with
      | false =>
        go_wp2_with fail
        with_reducible refine (refuse_b HK3 (b' := !false || bIface fl != false) ?hb 70).mono ?_
        case hb => rfl
        rintro e w4 ⟨rfl, hk, hc⟩
        have HK4 := lhid hk
        have HC4 := lhid hc
        clear hk hc
        go_wp2_with fail
        go_meet
        exact ⟨HK4, HC4⟩
      | true =>
        go_wp2_with fail
        with_reducible refine (refuse_b HK3 (b' := !true || bIface fl != false) ?hb 70).mono ?_
        case hb => rw [HQI.out]; cases qi <;> rfl
        rintro e w4 ⟨rfl, hk, hc⟩
        have HK4 := lhid hk
        have HC4 := lhid hc
        clear hk hc
        go_wp2_with fail
        go_meet
        exact ⟨HK4, HC4⟩
    case rest =>
      obtain ⟨HKc, HCc⟩ := hcut
      obtain ⟨wr, hwr⟩ : ∃ q, q = wc := ⟨_, rfl⟩
      subst hwr
      have HT4 := lhid (HT3.out.tr (HCc.out.mono fun _ _ h => h.1.1.1))
      have HOB4 := lhid (HCc.out.keep HOB3.out (fun h => h.1.1.2 rfl))
      have HRB4 := lhid (HCc.out.keep HRB3.out (fun h => h.1.2 rfl))
      have HX4 := lhid (HCc.out.keep HX3.out (fun h => h.2 rfl))
      clear o1
      obtain ⟨s2, hs2⟩ : ∃ q, s1.refuse (!th || bIface fl != false) 70 = q := ⟨_, rfl⟩
      rw [hs2] at HKc
      have HS2 := lhid hs2
      clear hs2
      have x2 := heap_cell (i := 2) HX4.out rfl
      have x3 := heap_cell (i := 3) HX4.out rfl
      have x4 := heap_cell (i := 4) HX4.out rfl
      have t0 := HKc.out.cell
      have hSS : ∀ w' : World, Below wr.heap.size wr w' → (w'.cell? ⟨c, 0, none⟩ = some (.pointer (some ⟨F.tb, 0, none⟩)) ∧ w'.cell? ⟨w1.heap.size, 2, none⟩ = some (.string (tx x.text)) ∧ w'.cell? ⟨w1.heap.size, 3, none⟩ = some (.string (tx x.name)) ∧ w'.cell? ⟨w1.heap.size, 4, none⟩ = some (.string (tx x.desc))) := fun w' hb => ⟨(hb.cell (p := ⟨c, 0, none⟩) (cell_lt t0)).trans t0, (hb.cell (p := ⟨w1.heap.size, 2, none⟩) (cell_lt x2)).trans x2, (hb.cell (p := ⟨w1.heap.size, 3, none⟩) (cell_lt x3)).trans x3, (hb.cell (p := ⟨w1.heap.size, 4, none⟩) (cell_lt x4)).trans x4⟩
      have HSS := lhid hSS
      clear hSS
      go_upto_region 8 with fail
      go_cut [8, 11] from 43 (fun t8 t11 wx => t8 = .bool tm ∧ ∃ FB : Nat, t11 = .pointer (some ⟨FB, 0, none⟩) ∧ Hid (wr.heap.size ≤ FB) ∧ Hid (wx.cell? ⟨FB, 0, none⟩ = some (.int .i64 mf)) ∧ Hid (Below wr.heap.size wr wx))
      case first =>
        go_region_held3 (fun w' => w'.cell? ⟨c, 0, none⟩ = some (.pointer (some ⟨F.tb, 0, none⟩)) ∧ w'.cell? ⟨w1.heap.size, 2, none⟩ = some (.string (tx x.text)) ∧ w'.cell? ⟨w1.heap.size, 3, none⟩ = some (.string (tx x.name)) ∧ w'.cell? ⟨w1.heap.size, 4, none⟩ = some (.string (tx x.desc))) (first | with_reducible exact HSS.out _ (Below.drew' (Below.refl _ _)) | with_reducible exact HSS.out _ (Below.drew' ((Below.refl _ _).alloc (Nat.le_refl _) _)) | with_reducible exact HSS.out _ (Below.alloc (Below.drew' (Below.refl _ _)) (Nat.le_refl _) _) | with_reducible exact HSS.out _ hb5 | with_reducible exact HSS.out _ hb5a | with_reducible exact HSS.out _ hb5b) (first
          | ((with_reducible refine (meth_y HE.out x.text x.name x.desc _ HXT.out (HKc.out.below (Below.drew' (Below.refl _ _))).std).mono ?_); rintro e w5 ⟨⟨on, Y, rfl, hY8, hY1, hY0⟩, hb5'⟩; have hb5 : Below wr.heap.size wr w5 := ⟨hb5'.os, hb5'.tape, hb5'.output, hb5'.size, hb5'.block⟩; rw [HFT.out.2.2.1] at hY0; rw [HFT.out.2.2.2]; have hb5a : Below wr.heap.size wr (w5.alloc (.cells #[.int .i64 0, .string ⟨#[]⟩, .string ⟨#[]⟩, .int .i64 0, .int .i64 0, .slice none 0 0, .slice none 0 0, .slice none 0 0] 27)) := Below.alloc hb5 hb5.size _; have hb5b : Below wr.heap.size wr ((w5.alloc (.cells #[.int .i64 0, .string ⟨#[]⟩, .string ⟨#[]⟩, .int .i64 0, .int .i64 0, .slice none 0 0, .slice none 0 0, .slice none 0 0] 27)).setCells w5.heap.size 0 Y) := below_put hb5a hb5.size 0 Y; have hput := put_me (heap_alloc_new w5 (.cells #[.int .i64 0, .string ⟨#[]⟩, .string ⟨#[]⟩, .int .i64 0, .int .i64 0, .slice none 0 0, .slice none 0 0, .slice none 0 0] 27)) rfl hY8 hY1; have hput1 := hput.1; have hput2 := hput.2 _ hY0; clear hput)
          | ((with_reducible refine (meth_y HE.out x.text x.name x.desc _ HXT.out (HKc.out.below (Below.drew' ((Below.refl _ _).alloc (Nat.le_refl _) (.cells #[.int .i64 0, .string ⟨#[]⟩, .string ⟨#[]⟩, .int .i64 0, .int .i64 0, .slice none 0 0, .slice none 0 0, .slice none 0 0] 27)))).std).mono ?_); rintro e w5 ⟨⟨on, Y, rfl, hY8, hY1, hY0⟩, hb5'⟩; have hb5 : Below wr.heap.size wr w5 := (Below.drew' ((Below.refl wr.heap.size wr).alloc (Nat.le_refl _) (.cells #[.int .i64 0, .string ⟨#[]⟩, .string ⟨#[]⟩, .int .i64 0, .int .i64 0, .slice none 0 0, .slice none 0 0, .slice none 0 0] 27))).trans (Below.less hb5' (by simp)); have hf5 : w5.heap[wr.heap.size]? = some (.cells #[.int .i64 0, .string ⟨#[]⟩, .string ⟨#[]⟩, .int .i64 0, .int .i64 0, .slice none 0 0, .slice none 0 0, .slice none 0 0] 27 (0, 0)) := (hb5'.block _ (by simp)).trans (heap_alloc_new wr (.cells #[.int .i64 0, .string ⟨#[]⟩, .string ⟨#[]⟩, .int .i64 0, .int .i64 0, .slice none 0 0, .slice none 0 0, .slice none 0 0] 27)); rw [HFT.out.2.2.1] at hY0; rw [HFT.out.2.2.2]; have hb5b : Below wr.heap.size wr (w5.setCells wr.heap.size 0 Y) := below_put hb5 (Nat.le_refl _) 0 Y; have hput := put_me hf5 rfl hY8 hY1; have hput1 := hput.1; have hput2 := hput.2 _ hY0; clear hput))
        · go_wp2_with fail
          go_meet
          exact ⟨rfl, w5.heap.size, rfl, lhid hb5.size, lhid hput2, lhid hb5b⟩
        · go_wp2_with fail
          go_meet
          exact ⟨rfl, wr.heap.size, rfl, lhid (Nat.le_refl _), lhid hput2, lhid hb5b⟩
      case rest =>
        obtain ⟨rfl, FB, rfl, hFB, HMB, HBW⟩ := hcut
        obtain ⟨w6, hw6⟩ : ∃ q, q = wc := ⟨_, rfl⟩
        subst hw6
        have HK6 := lhid (HKc.out.box HBW.out hFB.out (cell_lt HMB.out))
        have HT6 := lhid (HT4.out.tr (Ch.of HBW.out))
        have HOB6 := lhid ((HBW.out.block _ (heap_lt HOB4.out)).trans HOB4.out)
        have HRB6 := lhid ((HBW.out.block _ (heap_lt HRB4.out)).trans HRB4.out)
        have HX6 := lhid ((HBW.out.block _ (heap_lt HX4.out)).trans HX4.out)
        clear t0 x2 x3 x4
        have o1 := heap_cell (i := 1) HOB6.out rfl
        have m0 := HMB.out
        have HM9 : Hid (∀ w', Ch (fun k => (((Z k ∧ k ≠ w.heap.size) ∧ k ≠ w.heap.size + 1) ∧ k ≠ w1.heap.size) ∧ k ≠ FB) w6 w' → (w'.cell? ⟨FB, 0, none⟩ = some (.int .i64 mf) ∧ w'.cell? ⟨w.heap.size, 1, none⟩ = some (.int .i64 o))) := lhid (fun w' hc => ⟨(cell_heap (hc.block _ (cell_lt HMB.out) (fun h => h.2 rfl)) 0).trans HMB.out, heap_cell (hc.keep HOB6.out (fun h => h.1.1.1.2 rfl)) rfl⟩)
        have HKd := lhid HK6.out.drew
        go_upto_region 9 with fail
        go_cut [] from 58 (fun wx => Hid (Ck E (fun k => (((Z k ∧ k ≠ w.heap.size) ∧ k ≠ w.heap.size + 1) ∧ k ≠ w1.heap.size) ∧ k ≠ FB) wT c F (N + 1) (s2.refuse (!tm || bStat mf != b184) 70) kn st wx) ∧ Hid (Ch (fun k => (((Z k ∧ k ≠ w.heap.size) ∧ k ≠ w.heap.size + 1) ∧ k ≠ w1.heap.size) ∧ k ≠ FB) w6 wx))
        case first =>
          cases tm with
          | false =>
            refine wp_region_any (by kernel_rfl) ?_
            try (change wpAny _ _ _ _ _ _ _ (World.drew _))
            refine wpAny_take (i := 0) (v := ?v0_28) rfl (by kernel_rfl) (by kernel_rfl) (by kernel_rfl) (fun _ _ _ h => h) (Or.inl ⟨by rfl, ?hy0_28⟩) ?rest0_28
            case hy0_28 => intro w; (first | (go_simp; done) | (go_simp; with_reducible rfl))
            refine wpAny_take (i := 1) (v := ?v1_29) rfl (by kernel_rfl) (by kernel_rfl) (by kernel_rfl) (fun _ _ _ h => h) (Or.inl ⟨by rfl, ?hy1_29⟩) ?rest1_29
            case hy1_29 => intro w; (first | (go_simp; done) | (go_simp; with_reducible rfl))
            refine wpAny_take (i := 2) (v := ?v2_30) rfl (by kernel_rfl) (by kernel_rfl) (by kernel_rfl) (fun _ _ _ h => h) (Or.inl ⟨by rfl, ?hy2_30⟩) ?rest2_30
            case hy2_30 => intro w; (first | (go_simp; done) | (go_simp; with_reducible rfl))
            refine wpAny_take (i := 3) (v := ?v3_31) rfl (by kernel_rfl) (by kernel_rfl) (by kernel_rfl) (fun _ _ _ h => h) (Or.inl ⟨by rfl, ?hy3_31⟩) ?rest3_31
            case hy3_31 => intro w; (first | (go_simp; done) | (go_simp; with_reducible rfl))
            refine wpAny_take (i := 4) (v := undef) rfl (by kernel_rfl) (by kernel_rfl) (by kernel_rfl) (fun _ _ _ h => h) (Or.inr ⟨by kernel_rfl, rfl⟩) ?rest4_32
            refine wpAny_take (i := 5) (v := undef) rfl (by kernel_rfl) (by kernel_rfl) (by kernel_rfl) (fun _ _ _ h => h) (Or.inr ⟨by kernel_rfl, rfl⟩) ?rest5_33
            refine wpAny_take (i := 6) (v := undef) rfl (by kernel_rfl) (by kernel_rfl) (by kernel_rfl) (fun _ _ _ h => h) (Or.inr ⟨by kernel_rfl, rfl⟩) ?rest6_34
            refine wpAny_take (i := 7) (v := undef) rfl (by kernel_rfl) (by kernel_rfl) (by kernel_rfl) (fun _ _ _ h => h) (Or.inr ⟨by kernel_rfl, rfl⟩) ?rest7_35
            refine wpAny_take (i := 8) (v := undef) rfl (by kernel_rfl) (by kernel_rfl) (by kernel_rfl) (fun _ _ _ h => h) (Or.inr ⟨by kernel_rfl, rfl⟩) ?rest8_36
            refine wpAny_take (i := 9) (v := undef) rfl (by kernel_rfl) (by kernel_rfl) (by kernel_rfl) (fun _ _ _ h => h) (Or.inr ⟨by kernel_rfl, rfl⟩) ?rest9_37
            refine wpAny_take (i := 10) (v := undef) rfl (by kernel_rfl) (by kernel_rfl) (by kernel_rfl) (fun _ _ _ h => h) (Or.inr ⟨by kernel_rfl, rfl⟩) ?rest10_38
            refine wpAny_take (i := 11) (v := ?v11_39) rfl (by kernel_rfl) (by kernel_rfl) (by kernel_rfl) (fun _ _ _ h => h) (Or.inl ⟨by rfl, ?hy11_39⟩) ?rest11_39
            case hy11_39 => intro w; (first | (go_simp; done) | (go_simp; with_reducible rfl))
            refine wpAny_ready (rs := [12]) (by kernel_rfl) (by simp) ?_
            refine AllReady.cons rfl (fun K hK => ?_) AllReady.nil
            go_simp
            with_reducible refine (refuse_b HKd (b' := !false || bStat mf != b184) ?hb 70).mono ?_
            case hb => rfl
            rintro e w7 ⟨rfl, hk7, hc7'⟩
            have hc7 := (Ch.drew (Ch.refl (fun k => (((Z k ∧ k ≠ w.heap.size) ∧ k ≠ w.heap.size + 1) ∧ k ≠ w1.heap.size) ∧ k ≠ FB) w6)).tr hc7'
            dsimp only
            refine hK _ _ ?_
            clear hK K
            refine wpAny_done (by kernel_rfl) ?_ _
            go_wp2_with fail
            go_meet
            exact ⟨lhid hk7, lhid hc7⟩
          | true =>
            go_region_held3 (fun w' => w'.cell? ⟨FB, 0, none⟩ = some (.int .i64 mf) ∧ w'.cell? ⟨w.heap.size, 1, none⟩ = some (.int .i64 o)) (first | with_reducible exact HM9.out _ (Ch.drew (Ch.refl _ _)) | with_reducible exact HM9.out _ hc7) (first
              | ((with_reducible refine (isStatic_c mf _).mono ?_); rintro e w9 ⟨rfl, rfl⟩)
              | ((with_reducible refine (refuse_b HKd (b' := !true || bStat mf != b184) ?hb 70).mono ?_); (case hb => cases bStat mf <;> rfl); rintro e w7 ⟨rfl, hk7, hc7'⟩; have hc7 := (Ch.drew (Ch.refl (fun k => (((Z k ∧ k ≠ w.heap.size) ∧ k ≠ w.heap.size + 1) ∧ k ≠ w1.heap.size) ∧ k ≠ FB) w6)).tr hc7'))
            go_wp2_with fail
            go_meet
            exact ⟨lhid hk7, lhid hc7⟩
        case rest =>
          obtain ⟨HK8, HC8⟩ := hcut
          obtain ⟨w8, hw8⟩ : ∃ q, q = wc := ⟨_, rfl⟩
          subst hw8
          clear o1 m0 HKd
          have o1 := (HM9.out _ HC8.out).2
          have m0 := (HM9.out _ HC8.out).1
          cases b183 with
          | false =>
            have HTn := lhid (HT6.out.tr (HC8.out.mono fun _ _ h => h.1.1.1.1))
            have hRn := HC8.out.keep HRB6.out (fun h => h.1.1.2 rfl)
            have hXn := HC8.out.keep HX6.out (fun h => h.1.2 rfl)
            have hkZ := HK8.out.unbox HC.out (fun _ h => h.1.1.1.1) HTn.out.size
            obtain ⟨hkF, hcF, hrF⟩ := hkZ.five hRn (by decide) (by decide) (HC.out.new _ (Nat.le_succ _)) (.int .i64 x.kind) (.int .i64 x.num) (.string (tx x.text)) (.string (tx x.name)) (.string (tx x.desc))
            have HKF := lhid hkF
            have HCF := lhid (HTn.out.tr hcF)
            have m0 := heap_cell (i := 0) hXn rfl
            have r0 := heap_cell (i := 0) hRn rfl
            have z0 := heap_thaw hRn 0
            have q0 := heap_cell (i := 0) hrF rfl
            have m1 := heap_cell (i := 1) hXn rfl
            have r1 := heap_cell (i := 1) hRn rfl
            have z1 := heap_thaw hRn 1
            have q1 := heap_cell (i := 1) hrF rfl
            have m2 := heap_cell (i := 2) hXn rfl
            have r2 := heap_cell (i := 2) hRn rfl
            have z2 := heap_thaw hRn 2
            have q2 := heap_cell (i := 2) hrF rfl
            have m3 := heap_cell (i := 3) hXn rfl
            have r3 := heap_cell (i := 3) hRn rfl
            have z3 := heap_thaw hRn 3
            have q3 := heap_cell (i := 3) hrF rfl
            have m4 := heap_cell (i := 4) hXn rfl
            have r4 := heap_cell (i := 4) hRn rfl
            have z4 := heap_thaw hRn 4
            have q4 := heap_cell (i := 4) hrF rfl
            clear hkF hcF hrF hkZ hRn hXn
            go_wp2_with fail
            refine bodyPost_ret (v := coV x) (by simp [results, Tryz.results220, go_sem, coV, q0, q1, q2, q3, q4]) rfl ?_
            rw [HCE.out]
            exact ⟨rfl, by rw [← HS2.out] at HKF; exact HKF.out, HCF.out⟩
          | true =>
            obtain ⟨qa, hqa⟩ : ∃ y, (bits .and .i64 mf 1024 != 0) = y := ⟨_, rfl⟩
            have HQA : Hid (bAbs mf = qa) := lhid (by rw [← flag_abs, hqa])
            have x2 := heap_cell (i := 2) (HC8.out.keep HX6.out (fun h => h.1.2 rfl)) rfl
            have t0 := HK8.out.cell
            have HKd := lhid HK8.out.drew
            have HX9 : Hid (∀ w', Ch (fun k => (((Z k ∧ k ≠ w.heap.size) ∧ k ≠ w.heap.size + 1) ∧ k ≠ w1.heap.size) ∧ k ≠ FB) w8 w' → w'.cell? ⟨w1.heap.size, 2, none⟩ = some (.string (tx x.text))) := lhid (fun w' hc => heap_cell (hc.keep (HC8.out.keep HX6.out (fun h => h.1.2 rfl)) (fun h => h.1.2 rfl)) rfl)
            obtain ⟨s3, hs3⟩ : ∃ q, s2.refuse (!tm || bStat mf != b184) 70 = q := ⟨_, rfl⟩
            rw [hs3] at HK8 HKd
            have HS3 := lhid hs3
            have HOW := HE.out.l_own
            clear hs3
            cases qa with
            | true =>
              go_upto_region 12 with fail
              refine wp_region_any (by kernel_rfl) ?_
              try (change wpAny _ _ _ _ _ _ _ (World.drew _))
              refine wpAny_take (i := 0) (v := ?v0_40) rfl (by kernel_rfl) (by kernel_rfl) (by kernel_rfl) (fun _ _ _ h => h) (Or.inl ⟨by rfl, ?hy0_40⟩) ?rest0_40
              case hy0_40 => intro w; (first | (go_simp; done) | (go_simp; with_reducible rfl))
              refine wpAny_take (i := 1) (v := ?v1_41) rfl (by kernel_rfl) (by kernel_rfl) (by kernel_rfl) (fun _ _ _ h => h) (Or.inl ⟨by rfl, ?hy1_41⟩) ?rest1_41
              case hy1_41 => intro w; (first | (go_simp; done) | (go_simp; with_reducible rfl))
              refine wpAny_take (i := 2) (v := ?v2_42) rfl (by kernel_rfl) (by kernel_rfl) (by kernel_rfl) (fun _ _ _ h => h) (Or.inl ⟨by rfl, ?hy2_42⟩) ?rest2_42
              case hy2_42 => intro w; (first | (go_simp; done) | (go_simp; with_reducible rfl))
              refine wpAny_take (i := 3) (v := undef) rfl (by kernel_rfl) (by kernel_rfl) (by kernel_rfl) (fun _ _ _ h => h) (Or.inr ⟨by kernel_rfl, rfl⟩) ?rest3_43
              refine wpAny_take (i := 4) (v := undef) rfl (by kernel_rfl) (by kernel_rfl) (by kernel_rfl) (fun _ _ _ h => h) (Or.inr ⟨by kernel_rfl, rfl⟩) ?rest4_44
              refine wpAny_take (i := 5) (v := undef) rfl (by kernel_rfl) (by kernel_rfl) (by kernel_rfl) (fun _ _ _ h => h) (Or.inr ⟨by kernel_rfl, rfl⟩) ?rest5_45
              refine wpAny_take (i := 6) (v := undef) rfl (by kernel_rfl) (by kernel_rfl) (by kernel_rfl) (fun _ _ _ h => h) (Or.inr ⟨by kernel_rfl, rfl⟩) ?rest6_46
              refine wpAny_take (i := 7) (v := undef) rfl (by kernel_rfl) (by kernel_rfl) (by kernel_rfl) (fun _ _ _ h => h) (Or.inr ⟨by kernel_rfl, rfl⟩) ?rest7_47
              refine wpAny_take (i := 8) (v := undef) rfl (by kernel_rfl) (by kernel_rfl) (by kernel_rfl) (fun _ _ _ h => h) (Or.inr ⟨by kernel_rfl, rfl⟩) ?rest8_48
              refine wpAny_take (i := 9) (v := undef) rfl (by kernel_rfl) (by kernel_rfl) (by kernel_rfl) (fun _ _ _ h => h) (Or.inr ⟨by kernel_rfl, rfl⟩) ?rest9_49
              refine wpAny_take (i := 10) (v := undef) rfl (by kernel_rfl) (by kernel_rfl) (by kernel_rfl) (fun _ _ _ h => h) (Or.inr ⟨by kernel_rfl, rfl⟩) ?rest10_50
              refine wpAny_take (i := 11) (v := undef) rfl (by kernel_rfl) (by kernel_rfl) (by kernel_rfl) (fun _ _ _ h => h) (Or.inr ⟨by kernel_rfl, rfl⟩) ?rest11_51
              refine wpAny_take (i := 12) (v := undef) rfl (by kernel_rfl) (by kernel_rfl) (by kernel_rfl) (fun _ _ _ h => h) (Or.inr ⟨by kernel_rfl, rfl⟩) ?rest12_52
              refine wpAny_take (i := 13) (v := undef) rfl (by kernel_rfl) (by kernel_rfl) (by kernel_rfl) (fun _ _ _ h => h) (Or.inr ⟨by kernel_rfl, rfl⟩) ?rest13_53
              refine wpAny_take (i := 14) (v := ?v14_54) rfl (by kernel_rfl) (by kernel_rfl) (by kernel_rfl) (fun _ _ _ h => h) (Or.inl ⟨by rfl, ?hy14_54⟩) ?rest14_54
              case hy14_54 => intro w; (first | (go_simp; done) | (go_simp; with_reducible rfl))
              refine wpAny_ready (rs := [15]) (by kernel_rfl) (by simp) ?_
              refine AllReady.cons rfl (fun K hK => ?_) AllReady.nil
              go_simp
              with_reducible refine (refuse_b HKd (b' := bAbs mf || !E.fits E.own (E.of x.text)) ?hb 70).mono ?_
              case hb => rw [HQA.out]; rfl
              rintro e w7 ⟨rfl, hk7, hc7'⟩
              have hc7 := (Ch.drew (Ch.refl (fun k => (((Z k ∧ k ≠ w.heap.size) ∧ k ≠ w.heap.size + 1) ∧ k ≠ w1.heap.size) ∧ k ≠ FB) w8)).tr hc7'
              dsimp only
              refine hK _ _ ?_
              clear hK K
              refine wpAny_done (by kernel_rfl) ?_ _
              have HK7 := lhid hk7
              have HC7 := lhid (HC8.out.tr hc7)
              clear hk7 hc7 hc7' o1 m0 x2 t0
              rw [← HS3.out] at HK7
              have HTn := lhid (HT6.out.tr (HC7.out.mono fun _ _ h => h.1.1.1.1))
              have hRn := HC7.out.keep HRB6.out (fun h => h.1.1.2 rfl)
              have hXn := HC7.out.keep HX6.out (fun h => h.1.2 rfl)
              have hkZ := HK7.out.unbox HC.out (fun _ h => h.1.1.1.1) HTn.out.size
              obtain ⟨hkF, hcF, hrF⟩ := hkZ.five hRn (by decide) (by decide) (HC.out.new _ (Nat.le_succ _)) (.int .i64 x.kind) (.int .i64 x.num) (.string (tx x.text)) (.string (tx x.name)) (.string (tx x.desc))
              have HKF := lhid hkF
              have HCF := lhid (HTn.out.tr hcF)
              have m0 := heap_cell (i := 0) hXn rfl
              have r0 := heap_cell (i := 0) hRn rfl
              have z0 := heap_thaw hRn 0
              have q0 := heap_cell (i := 0) hrF rfl
              have m1 := heap_cell (i := 1) hXn rfl
              have r1 := heap_cell (i := 1) hRn rfl
              have z1 := heap_thaw hRn 1
              have q1 := heap_cell (i := 1) hrF rfl
              have m2 := heap_cell (i := 2) hXn rfl
              have r2 := heap_cell (i := 2) hRn rfl
              have z2 := heap_thaw hRn 2
              have q2 := heap_cell (i := 2) hrF rfl
              have m3 := heap_cell (i := 3) hXn rfl
              have r3 := heap_cell (i := 3) hRn rfl
              have z3 := heap_thaw hRn 3
              have q3 := heap_cell (i := 3) hrF rfl
              have m4 := heap_cell (i := 4) hXn rfl
              have r4 := heap_cell (i := 4) hRn rfl
              have z4 := heap_thaw hRn 4
              have q4 := heap_cell (i := 4) hrF rfl
              clear hkF hcF hrF hkZ hRn hXn
              go_wp2_with fail
              refine bodyPost_ret (v := coV x) (by simp [results, Tryz.results220, go_sem, coV, q0, q1, q2, q3, q4]) rfl ?_
              rw [HCE.out]
              exact ⟨rfl, by rw [← HS2.out] at HKF; exact HKF.out, HCF.out⟩
            | false =>
              go_upto_region 12 with fail
              go_region_held3 (fun w' => w'.cell? ⟨c, 0, none⟩ = some (.pointer (some ⟨F.tb, 0, none⟩)) ∧ w'.cell? ⟨w1.heap.size, 2, none⟩ = some (.string (tx x.text))) (first | with_reducible exact ⟨HKd.out.cell, HX9.out _ (Ch.drew (Ch.refl _ _))⟩ | with_reducible exact ⟨hk5.cell, HX9.out _ hc5⟩ | with_reducible exact ⟨hk7.cell, HX9.out _ hc7⟩) (first
                | ((with_reducible refine (ownType_c HE HF HKd).mono ?_); rintro e w9 ⟨rfl, rfl⟩)
                | ((with_reducible refine (HE.out.of x.text _ HXT.out).mono ?_); rintro e w9 ⟨rfl, rfl⟩)
                | ((with_reducible refine (HE.out.fits E.own (E.of x.text) _ HOW HOL.out HKd.out.std).mono ?_); rintro e w5 ⟨rfl, hb5⟩; have hk5 := HKd.out.below hb5; have hc5 := (Ch.drew (Ch.refl (fun k => (((Z k ∧ k ≠ w.heap.size) ∧ k ≠ w.heap.size + 1) ∧ k ≠ w1.heap.size) ∧ k ≠ FB) w8)).below hb5)
                | ((with_reducible refine (refuse_b (lhid hk5) (b' := bAbs mf || !E.fits E.own (E.of x.text)) ?hb 70).mono ?_); (case hb => rw [HQA.out]; rfl); rintro e w7 ⟨rfl, hk7, hc7'⟩; have hc7 := hc5.tr hc7'))
              have HK7 := lhid hk7
              have HC7 := lhid (HC8.out.tr hc7)
              clear hk7 hc7 hc7' hk5 hc5 hb5 o1 m0 x2 t0
              rw [← HS3.out] at HK7
              have HTn := lhid (HT6.out.tr (HC7.out.mono fun _ _ h => h.1.1.1.1))
              have hRn := HC7.out.keep HRB6.out (fun h => h.1.1.2 rfl)
              have hXn := HC7.out.keep HX6.out (fun h => h.1.2 rfl)
              have hkZ := HK7.out.unbox HC.out (fun _ h => h.1.1.1.1) HTn.out.size
              obtain ⟨hkF, hcF, hrF⟩ := hkZ.five hRn (by decide) (by decide) (HC.out.new _ (Nat.le_succ _)) (.int .i64 x.kind) (.int .i64 x.num) (.string (tx x.text)) (.string (tx x.name)) (.string (tx x.desc))
              have HKF := lhid hkF
              have HCF := lhid (HTn.out.tr hcF)
              have m0 := heap_cell (i := 0) hXn rfl
              have r0 := heap_cell (i := 0) hRn rfl
              have z0 := heap_thaw hRn 0
              have q0 := heap_cell (i := 0) hrF rfl
              have m1 := heap_cell (i := 1) hXn rfl
              have r1 := heap_cell (i := 1) hRn rfl
              have z1 := heap_thaw hRn 1
              have q1 := heap_cell (i := 1) hrF rfl
              have m2 := heap_cell (i := 2) hXn rfl
              have r2 := heap_cell (i := 2) hRn rfl
              have z2 := heap_thaw hRn 2
              have q2 := heap_cell (i := 2) hrF rfl
              have m3 := heap_cell (i := 3) hXn rfl
              have r3 := heap_cell (i := 3) hRn rfl
              have z3 := heap_thaw hRn 3
              have q3 := heap_cell (i := 3) hrF rfl
              have m4 := heap_cell (i := 4) hXn rfl
              have r4 := heap_cell (i := 4) hRn rfl
              have z4 := heap_thaw hRn 4
              have q4 := heap_cell (i := 4) hrF rfl
              clear hkF hcF hrF hkZ hRn hXn
              go_wp2_with fail
              refine bodyPost_ret (v := coV x) (by simp [results, Tryz.results220, go_sem, coV, q0, q1, q2, q3, q4]) rfl ?_
              rw [HCE.out]
              exact ⟨rfl, by rw [← HS2.out] at HKF; exact HKF.out, HCF.out⟩
end
end Go.Proofs.YtpdnonlelocfbaaGreatDoor
