/- LiveReads: the law walked. -/
import Derived.Test.YtoommeiiadobfaaM21
import Derived.Test.YtoommeiiadobfaaM20
import Derived.Test.YtoommeiiadobfaaM16
import Derived.Test.YtoommeiiadobfaaM5
namespace Go.Proofs.Ytoommeiiadobfaa
open Go.RowKit Go
set_option linter.unusedVariables false
set_option linter.unusedSimpArgs false
theorem zero_int3 (w : World) : (zeroValue 3).run Try.prog w = .ok (.int .i64 0) w := by kernel_rfl
theorem across_m (f : FuI) (n R TB : Nat) (hn : f.code.length = n) (hR : f.regs.length = R) (fa fb fd fe : Value) (i r : Int) (w : World) (h : Hid (TabM f n R w TB)) (hz : Hid (R ≤ 20000 ∧ n ≤ 20000)) (hg : Hid (FuV Tru w f fa fb fd fe)) (hrn : Hid (RwN f.rows)) (hrl : Hid (f.rows.length * 8 ≤ 140737488355328)) : Calls Try.prog 14 #[.pointer (some ⟨TB, 0, none⟩), fuL fa fb f.ret fd fe, .int .i64 i, .int .i64 r] w fun e w' => AcrOut f f n n R i r w e w' := across_c f f n n R TB hn fa fb fd fe i r w h hz hg hrn hrl
theorem before_m {f : FuI} {n R TB : Nat} {i r : Int} {w : World} {z : Bool} (h : Hid (TabM f n R w TB)) (hz : Hid (R ≤ 20000 ∧ n ≤ 20000)) (hb : z = true ↔ BefP f n R i r) : Calls Try.prog 10 #[.pointer (some ⟨TB, 0, none⟩), .int .i64 i, .int .i64 r] w fun e w' => e = .returned (.bool z) ∧ w' = w := by
 refine (before_c f n R TB i r w h hz).mono ?_
 rintro e w1 ⟨b, rfl, hbb, rfl⟩
 exact ⟨by rw [show b = z by rw [Bool.eq_iff_iff]; exact hbb.trans hb.symm], rfl⟩
theorem across_z {f : FuI} {n R TB : Nat} (hn : f.code.length = n) (hR : f.regs.length = R) {fa fb fd fe : Value} {i r : Int} {w : World} {z : Bool} (h : Hid (TabM f n R w TB)) (hz : Hid (R ≤ 20000 ∧ n ≤ 20000)) (hg : Hid (FuV Tru w f fa fb fd fe)) (hrn : Hid (RwN f.rows)) (hrl : Hid (f.rows.length * 8 ≤ 140737488355328)) (hb : z = true ↔ AcrP f f n n R i r) : Calls Try.prog 14 #[.pointer (some ⟨TB, 0, none⟩), fuL fa fb f.ret fd fe, .int .i64 i, .int .i64 r] w fun e w' => e = .returned (.bool z) ∧ Below w.heap.size w w' := by
 refine (across_m f n R TB hn hR fa fb fd fe i r w h hz hg hrn hrl).mono ?_
 rintro e w1 ⟨b, rfl, hbb, h2⟩
 exact ⟨by rw [show b = z by rw [Bool.eq_iff_iff]; exact hbb.trans hb.symm], h2⟩
section
variable {f : FuI} {n R : Nat} {k : Nat} {x : InI} {r : Int}
theorem use_bef (h : chkN f = 0) (hn : f.code.length = n) (hR : f.regs.length = R) (hx : f.code[k]? = some x) {u : Int} (hu : u ∈ usesI x) : BefP f n R k u := by
 have h1 := chk_uses h hx u hu
 have h2 := (List.getElem?_eq_some_iff.1 hx).1
 exact ⟨k, u.toNat, rfl, by omega, by omega, by omega, k, x, .first (List.mem_singleton.2 rfl) h2, hx, hu⟩
theorem acr_bef (h : chkN f = 0) (hn : f.code.length = n) (hR : f.regs.length = R) (hx : f.code[k]? = some x) (ha : AcrP f f n n R k r) : BefP f n R k r := by
 have h2 := (List.getElem?_eq_some_iff.1 hx).1
 rw [bef_iff h hn hR]
 obtain ⟨hin, ha⟩ := (acr_iff h hn hR _ _).1 ha
 refine ⟨hin, rds_one.2 ⟨k, List.mem_singleton.2 rfl, h2, ?_⟩⟩
 have hd : defAt f ((k : Int).toNat) = defI x := by unfold defAt; rw [Int.toNat_natCast, hx]
 rcases ha with ha | ⟨hne, _, ha⟩
 ·obtain ⟨a, h3, h4, h5⟩ := rds_one.1 ha
  exact h5.back hx (List.mem_append_left _ h3) h4
 ·obtain ⟨a, h3, h4, h5⟩ := rds_one.1 ha
  rw [hd] at hne
  exact h5.back hx (List.mem_append_right _ (by rw [if_neg hne]; exact h3)) h4
theorem pr_split {j : Nat} (h : PR f r [(k : Int)] j) : j = k ∨ ∃ a : Nat, ∃ y, f.code[k]? = some y ∧ (a : Int) ∈ sucL f r k y ∧ a < f.code.length ∧ PR f r [(a : Int)] j := by
 induction h with
 | first hm hl => exact .inl (Int.ofNat.inj (List.mem_singleton.1 hm))
 | @step i j y hp hx hm hl ih =>
  rcases ih with e | ⟨a, z, h1, h2, h3, h4⟩
  ·subst e
   exact .inr ⟨j, y, hx, hm, hl, .first (List.mem_singleton.2 rfl) hl⟩
  ·exact .inr ⟨a, z, h1, h2, h3, .step h4 hx hm hl⟩
theorem bef_acr (h : chkN f = 0) (hn : f.code.length = n) (hR : f.regs.length = R) (hx : f.code[k]? = some x) (hb : BefP f n R k r) (hu : r ∉ usesI x) : AcrP f f n n R k r := by
 obtain ⟨hin, hb⟩ := (bef_iff h hn hR _ _).1 hb
 rw [acr_iff h hn hR]
 refine ⟨hin, ?_⟩
 have hd : defAt f ((k : Int).toNat) = defI x := by unfold defAt; rw [Int.toNat_natCast, hx]
 obtain ⟨a, h3, h4, j, y, hp, hy, hyu⟩ := rds_one.1 hb
 have e : a = k := Int.ofNat.inj (List.mem_singleton.1 h3)
 subst e
 rcases pr_split hp with e | ⟨b, z, h5, h6, h7, h8⟩
 ·subst e
  rw [hx] at hy
  injection hy with hy
  subst hy
  exact absurd hyu hu
 ·rw [hx] at h5
  injection h5 with h5
  subst h5
  unfold sucL at h6
  rcases List.mem_append.1 h6 with h9 | h9
  ·exact .inl (rds_one.2 ⟨b, h9, h7, j, y, h8, hy, hyu⟩)
  ·by_cases hdr : defI x = r
   ·rw [if_pos hdr] at h9; cases h9
   ·rw [if_neg hdr] at h9
    exact .inr ⟨by rw [hd]; exact hdr, hin, rds_one.2 ⟨b, h9, h7, j, y, h8, hy, hyu⟩⟩
theorem acr_thr (h : chkN f = 0) (hn : f.code.length = n) (hR : f.regs.length = R) (hx : f.code[k]? = some x) (ha : AcrP f f n n R k r) (hd : defI x = r) : throwsB x.op = true := by
 obtain ⟨hin, ha⟩ := (acr_iff h hn hR _ _).1 ha
 have hda : defAt f ((k : Int).toNat) = defI x := by unfold defAt; rw [Int.toNat_natCast, hx]
 rcases ha with ha | ⟨hne, _⟩
 ·obtain ⟨a, h3, _, _⟩ := rds_one.1 ha
  exact ((caught_iff hx _).1 h3).1
 ·exact absurd (hda.trans hd) hne
end
theorem across_nil2 (f : FuI) (n R : Nat) (hn : f.code.length = n) (hR : f.regs.length = R) (fa fb fd fe : Value) (i r : Int) (w : World) (hg : Hid (FuV Tru w f fa fb fd fe)) (hrn : Hid (RwN f.rows)) (hrl : Hid (f.rows.length * 8 ≤ 140737488355328)) : Calls Try.prog 14 #[.pointer none, fuL fa fb f.ret fd fe, .int .i64 i, .int .i64 r] w fun e w' => e = .returned (.bool false) ∧ Below w.heap.size w w' := across_nil f n hn fa fb fd fe i r w hg hrn hrl
set_option maxHeartbeats 64000000 in
set_option maxRecDepth 100000 in
theorem LiveReads_walk (f : FuI) (fa fb fd fe : Value) (ia ra : Int) (w : World) (h : Hid (FuV Tru w f fa fb fd fe)) (hq : Hid (FuQ f)) (hcap : Hid (∀ A n cap, fb = .slice A n cap → n ≤ cap ∧ cap ≤ maxLen)) (hrn : Hid (RwN f.rows)) (hrl : Hid (f.rows.length * 8 ≤ 140737488355328)) (hI : Hid (∀ x ∈ f.code, I64 (defI x) ∧ (∀ u ∈ usesI x, I64 u) ∧ x.args.length * 8 ≤ 140737488355328 ∧ (usesI x).length * 8 ≤ 140737488355328)) :
  Calls Try.prog 4 #[fuL fa fb f.ret fd fe, .int .i64 ia, .int .i64 ra] w fun e w' => e = .returned (.bool true) ∧ Below w.heap.size w w' := by
 obtain ⟨FA, ac, hFA⟩ := h.out.a.shape
 subst hFA
 obtain ⟨FB, bc, hFB⟩ := h.out.b.shape
 subst hFB
 obtain ⟨D, dcap, hD⟩ := h.out.d.shape
 subst hD
 obtain ⟨E, ecap, hE⟩ := h.out.e.shape
 subst hE
 obtain ⟨n, hn⟩ : ∃ n, f.code.length = n := ⟨_, rfl⟩
 obtain ⟨R, hR⟩ : ∃ R, f.regs.length = R := ⟨_, rfl⟩
 have HN := lhid hn
 have HR := lhid hR
 have hf2 := h.out
 rw [hn, hR] at hf2 ⊢
 have HFU := lhid hf2
 clear hn hR hf2 h
 go_enter Try.func4, Try.ntmps4
 go_wp2_with fail
 generalize hW : World.alloc _ _ = w0
 obtain ⟨B0, hB0⟩ : ∃ B0, B0 = w.heap.size := ⟨_, rfl⟩
 rw [← hB0]
 have hb0 : Below w.heap.size w w0 := by rw [← hW]; exact (Below.refl _ _).alloc (Nat.le_refl _) _
 have hF0 : FBox w0 B0 (.slice FA R ac) (.slice FB f.params.length bc) f.ret (.slice D n dcap) (.slice E f.rows.length ecap) := by rw [← hW, hB0]; exact heap_alloc_new w _
 have HF0 := lhid hF0
 have HB0 := lhid hb0
 clear hW hb0 hF0 hB0
 with_reducible refine (holds13_any w0).mono ?_
 rintro e w1 ⟨rfl, hb⟩
 have hF1 : FBox w1 B0 (.slice FA R ac) (.slice FB f.params.length bc) f.ret (.slice D n dcap) (.slice E f.rows.length ecap) := heap_keep HF0.out hb
 have HB1 : Hid (Below w.heap.size w w1) := lhid (HB0.out.trans (hb.mono HB0.out.size))
 have HU1 := lhid (HFU.out.below HB1.out)
 have HG : Hid (∀ w' : World, Below w1.heap.size w1 w' → w'.cell? ⟨B0, 0, none⟩ = some (.slice FA R ac) ∧ w'.cell? ⟨B0, 1, none⟩ = some (.slice FB f.params.length bc) ∧ w'.cell? ⟨B0, 2, none⟩ = some (.int .i64 f.ret) ∧ w'.cell? ⟨B0, 3, none⟩ = some (.slice D n dcap) ∧ w'.cell? ⟨B0, 4, none⟩ = some (.slice E f.rows.length ecap)) := lhid (fun w' hw' => by
  have k1 : FBox w' B0 (.slice FA R ac) (.slice FB f.params.length bc) f.ret (.slice D n dcap) (.slice E f.rows.length ecap) := heap_keep hF1 hw'
  exact k1.cells)
 obtain ⟨p0, p1, p2, p3, p4⟩ := hF1.cells
 clear hb hF1 HF0 HB0
 by_cases h400 : (400 : Int) < n
 ·go_wp2_with fail
  go_ret
  exact ⟨rfl, HB1.out⟩
 ·by_cases h60 : (60 : Int) < R
  ·go_wp2_with fail
   go_ret
   exact ⟨rfl, HB1.out⟩
  ·obtain ⟨c, hc⟩ : ∃ c, chkN f = c := ⟨_, rfl⟩
   have HC := lhid hc
   clear hc
   go_wp2_with fail
   with_reducible refine (rcheck_r f _ _ _ _ c w1 HU1 hq hcap HC).mono ?_
   rintro e w2 ⟨rfl, hb2⟩
   have HB2 := lhid hb2
   have HCL : Hid ((f.code.length + 1) * 1024 ≤ 140737488355328) := lhid (by have := HN.out; omega)
   have HSM : Hid (n ≤ 400 ∧ R ≤ 60) := lhid (by omega)
   clear p0 p1 p2 p3 p4 hb2
   obtain ⟨p0, p1, p2, p3, p4⟩ := HG.out w2 HB2.out
   by_cases hck : c = 0
   ·subst hck
    have HZS : Hid (R ≤ 20000 ∧ n ≤ 20000) := lhid (by have := HSM.out; omega)
    have HRL : Hid (f.rows.length * 8 ≤ 140737488355328) := lhid hrl.out
    go_wp2_with fail
    clear h400 h60
    with_reducible refine (of_any f n R HN.out HR.out _ _ _ _ w2 (lhid (HU1.out.below HB2.out)) hq hcap HCL hrn HRL hI).mono ?_
    rintro e w3 hof
    obtain ⟨hb3, TB, rfl, ht⟩ := hof.tab HC.out
    have HT3 := lhid ht
    have HB3 : Hid (Below w1.heap.size w1 w3) := lhid (HB2.out.trans (hb3.mono HB2.out.size))
    clear hof ht hb3 p0 p1 p2 p3 p4
    obtain ⟨p0, p1, p2, p3, p4⟩ := HG.out w3 HB3.out
    go_wp2_with fail
    clear p0 p1 p2 p3 p4
    go_loopg [39] n (fun g s wr => ∃ k : Nat, g = n - k ∧ s = .int .i64 k ∧ k ≤ n ∧ Hid (Below w3.heap.size w3 wr))
    case atStart => exact ⟨0, rfl, rfl, Nat.zero_le _, lhid (Below.refl _ _)⟩
    case round =>
     obtain ⟨k, rfl, rfl, hk, HBr⟩ := hrel
     by_cases hlt : k < n
     ·as_aux_lemma =>
       have k3 : (k : Int) < n := by omega
       have hwk : wrap64 ((k : Int) + 1) = ((k + 1 : Nat) : Int) := by rw [IntWalk.wrap64_in _ (by have := HSM.out; omega)]; omega
       have HMS : Hid (n - (k + 1) < n - k ∧ k + 1 ≤ n) := lhid (by omega)
       obtain ⟨x, hx⟩ : ∃ x, f.code[k]? = some x := ⟨_, List.getElem?_eq_getElem (by have := HN.out; omega)⟩
       have HWr : Hid (Below w1.heap.size w1 wr) := lhid (HB3.out.trans (HBr.out.mono HB3.out.size))
       obtain ⟨cg, co, cv, hDD, _, hcv, c0, c1, c2, c3, c4, c5, c6, c7, c8⟩ := in_cells (HU1.out.below HWr.out).d hx
       subst hDD
       obtain ⟨VA, vc, hcv0⟩ := hcv.shape
       subst hcv0
       have HCV := lhid hcv
       have HX := lhid hx
       have HI2 := lhid (hI.out x (List.mem_of_getElem? hx))
       clear hx hcv
       go_upto_region 9 with fail
       generalize hW : World.alloc _ _ = w8
       obtain ⟨X0, hX0⟩ : ∃ X0, X0 = wr.heap.size := ⟨_, rfl⟩
       try rw [← hX0]
       have hbr : Below wr.heap.size wr w8 := by rw [← hW]; exact (Below.refl _ _).alloc (Nat.le_refl _) _
       have hX8 : w8.heap[X0]? = some (.cells #[.int .i64 x.op, .int .i64 x.dst, .int .i64 x.a, .int .i64 x.b, .int .i64 x.c, .int .i64 x.num, .int .i64 x.too, .string (tx x.ref), .slice VA x.args.length vc] 35 (0, 0)) := by rw [← hW, hX0]; exact heap_alloc_new wr _
       have HX8 := lhid hX8
       have HB8 : Hid (Below w3.heap.size w3 w8) := lhid (HBr.out.trans (hbr.mono HBr.out.size))
       have HCV8 : Hid (RdX Tru 1 NuE w8 (.slice VA x.args.length vc) x.args) := lhid (HCV.out.below (keptX_nu _) hbr)
       obtain ⟨q0, q1, q2, q3, q4, q5, q6, q7, q8⟩ : w8.cell? ⟨X0, 0, none⟩ = some (.int .i64 x.op) ∧ w8.cell? ⟨X0, 1, none⟩ = some (.int .i64 x.dst) ∧ w8.cell? ⟨X0, 2, none⟩ = some (.int .i64 x.a) ∧ w8.cell? ⟨X0, 3, none⟩ = some (.int .i64 x.b) ∧ w8.cell? ⟨X0, 4, none⟩ = some (.int .i64 x.c) ∧ w8.cell? ⟨X0, 5, none⟩ = some (.int .i64 x.num) ∧ w8.cell? ⟨X0, 6, none⟩ = some (.int .i64 x.too) ∧ w8.cell? ⟨X0, 7, none⟩ = some (.string (tx x.ref)) ∧ w8.cell? ⟨X0, 8, none⟩ = some (.slice VA x.args.length vc) := ⟨heap_cell hX8 rfl, heap_cell hX8 rfl, heap_cell hX8 rfl, heap_cell hX8 rfl, heap_cell hX8 rfl, heap_cell hX8 rfl, heap_cell hX8 rfl, heap_cell hX8 rfl, heap_cell hX8 rfl⟩
       obtain ⟨l, hl⟩ : ∃ l, usesI x = l := ⟨_, rfl⟩
       have HL := lhid hl
       clear hW hX0 hbr hX8 hl c0 c1 c2 c3 c4 c5 c6 c7 c8
       go_wp2_with fail
       with_reducible refine (ruses_w x (.slice VA x.args.length vc) l w8 HCV8 (lhid HI2.out.2.2.1) HL).mono ?_
       rintro e w9 ⟨v, rfl, ho, hb9⟩
       obtain ⟨UA, uc, hv⟩ := own_shape ho
       subst hv
       have HLL : Hid (l.length ≤ 140737488355328) := lhid (by rw [← HL.out]; have := HI2.out.2.2.2; omega)
       have HRD9 : Hid (RdX Tru 1 NuE w9 (.slice UA l.length uc) l) := lhid ((OwN.rd ho HLL.out).any (fun _ _ => trivial))
       have HB9 : Hid (Below w3.heap.size w3 w9) := lhid (HB8.out.trans (hb9.mono HB8.out.size))
       have HX9 : Hid (w9.heap[X0]? = some (.cells #[.int .i64 x.op, .int .i64 x.dst, .int .i64 x.a, .int .i64 x.b, .int .i64 x.c, .int .i64 x.num, .int .i64 x.too, .string (tx x.ref), .slice VA x.args.length vc] 35 (0, 0))) := lhid (heap_keep HX8.out hb9)
       have hmm := @run_makeMap Try.prog
       clear ho hb9 q0 q1 q2 q3 q4 q5 q6 q7 q8
       go_upto_region 11 with fail
       generalize hW : World.alloc _ _ = w10
       obtain ⟨mb, hmb⟩ : ∃ mb, mb = w9.heap.size := ⟨_, rfl⟩
       try rw [← hmb]
       have hb10 : Below w9.heap.size w9 w10 := by rw [← hW]; exact (Below.refl _ _).alloc (Nat.le_refl _) _
       have HM10 : Hid (MI w10 mb 0 (mapH [])) := lhid (by rw [← hW, hmb]; exact (mi_made w9).ext (fun s => by simp [mapH]))
       have HB910 := lhid hb10
       have HMB : Hid (mb = w9.heap.size) := lhid hmb
       clear hW hmb hb10 hmm
       go_wp2_with fail
       go_loopg [49] l.length (fun g s wq => ∃ q : Nat, g = l.length - q ∧ s = .int .i64 q ∧ q ≤ l.length ∧ Hid (Ch (fun b => b = mb) w10 wq) ∧ Hid (MI wq mb q (mapH (l.take q))))
       case atStart => exact ⟨0, rfl, rfl, Nat.zero_le _, lhid (Ch.refl _ _), HM10⟩
       case round =>
        clear HM10
        obtain ⟨q, rfl, rfl, hq', HCh, HM⟩ := hrel
        have HBQ : Hid (Below w9.heap.size w9 wr) := lhid (HB910.out.trans (HCh.out.to HB910.out.size (fun b e => by have := HMB.out; omega)))
        by_cases hlq : q < l.length
        ·as_aux_lemma =>
          have k4 : (q : Int) < l.length := by omega
          have hwq : wrap64 ((q : Int) + 1) = ((q + 1 : Nat) : Int) := by rw [IntWalk.wrap64_in _ (by have := HLL.out; omega)]; omega
          have HQS : Hid (l.length - (q + 1) < l.length - q ∧ q + 1 ≤ l.length ∧ q < maxLen) := lhid ⟨by omega, by omega, by have := HLL.out; unfold maxLen; omega⟩
          obtain ⟨u, hu⟩ : ∃ u, l[q]? = some u := ⟨_, List.getElem?_eq_getElem hlq⟩
          obtain ⟨gl, ol, hLA, cl⟩ := nu_cell (HRD9.out.below (keptX_nu _) HBQ.out) hu
          subst hLA
          have HUM : Hid (u ∈ usesI x) := lhid (by rw [HL.out]; exact List.mem_of_getElem? hu)
          have HUX := lhid hu
          have HI6 : Hid (I6 u) := lhid (by have h1 := HI2.out.2.1 u HUM.out; unfold I64 at h1; exact h1)
          clear hu
          go_wp2_with (refine wpList_put_mi _ rfl (.tmp 53) (.tmp 54) (.const (.int .i64 1)) 37 rfl 3 Try.underlying37 mb q (mapH (l.take q)) rfl HM.out ?m1 u rfl HI6.out (.int .i64 1) rfl ?_)
          case m1 => exact HQS.out.2.2
          intro w11 hm11 hg11 hs11
          have HM11 : Hid (MI w11 mb (q + 1) (mapH (l.take (q + 1)))) := lhid (hm11.ext (fun s => by rw [take_snoc HUX.out]; exact mapH_snoc _ _ _))
          have HCh11 : Hid (Ch (fun b => b = mb) w10 w11) := lhid (HCh.out.grown hg11 (fun b e _ => by injection e with e; exact e.symm))
          have HT11 : Hid (TabM f n R w11 TB) := lhid (HT3.out.below (HB9.out.trans ((HB910.out.trans (HCh11.out.to HB910.out.size (fun b e => by have := HMB.out; omega))).mono HB9.out.size)))
          have HBT : Hid (true = true ↔ BefP f n R k u) := lhid ⟨fun _ => use_bef HC.out HN.out HR.out HX.out HUM.out, fun _ => rfl⟩
          clear hm11 hg11 hs11 cl
          go_wp2_with fail
          with_reducible refine (before_m HT11 HZS (z := true) ⟨fun _ => use_bef HC.out HN.out HR.out HX.out HUM.out, fun _ => rfl⟩).mono ?_
          rintro e w12 ⟨rfl, hww⟩
          rw [hww]
          clear hww
          go_wp2_with fail
          go_roundg (l.length - (q + 1))
          case measure => exact HQS.out.1
          case rel => exact ⟨q + 1, rfl, by first | rfl | rw [hwq], HQS.out.2.1, HCh11, HM11⟩
        ·have k4 : ¬ (q : Int) < l.length := by omega
         have hqe : q = l.length := by omega
         subst hqe
         obtain ⟨w13, hw13⟩ : ∃ y, y = wr := ⟨_, rfl⟩
         subst hw13
         have hM := HM.out
         rw [List.take_length] at hM
         have HM13 := lhid hM
         have HX13 : Hid (w13.heap[X0]? = some (.cells #[.int .i64 x.op, .int .i64 x.dst, .int .i64 x.a, .int .i64 x.b, .int .i64 x.c, .int .i64 x.num, .int .i64 x.too, .string (tx x.ref), .slice VA x.args.length vc] 35 (0, 0))) := lhid (heap_keep HX9.out HBQ.out)
         obtain ⟨q0, q1, q2, q3, q4, q5, q6, q7, q8⟩ : w13.cell? ⟨X0, 0, none⟩ = some (.int .i64 x.op) ∧ w13.cell? ⟨X0, 1, none⟩ = some (.int .i64 x.dst) ∧ w13.cell? ⟨X0, 2, none⟩ = some (.int .i64 x.a) ∧ w13.cell? ⟨X0, 3, none⟩ = some (.int .i64 x.b) ∧ w13.cell? ⟨X0, 4, none⟩ = some (.int .i64 x.c) ∧ w13.cell? ⟨X0, 5, none⟩ = some (.int .i64 x.num) ∧ w13.cell? ⟨X0, 6, none⟩ = some (.int .i64 x.too) ∧ w13.cell? ⟨X0, 7, none⟩ = some (.string (tx x.ref)) ∧ w13.cell? ⟨X0, 8, none⟩ = some (.slice VA x.args.length vc) := ⟨heap_cell HX13.out rfl, heap_cell HX13.out rfl, heap_cell HX13.out rfl, heap_cell HX13.out rfl, heap_cell HX13.out rfl, heap_cell HX13.out rfl, heap_cell HX13.out rfl, heap_cell HX13.out rfl, heap_cell HX13.out rfl⟩
         obtain ⟨d, hd⟩ : ∃ d, defI x = d := ⟨_, rfl⟩
         have HD := lhid hd
         clear hM HM hd hq' hlq k4
         go_wp2_with fail
         with_reducible refine (rdef_w x (.slice VA x.args.length vc) w13 d HD).mono ?_
         rintro e w14 ⟨rfl, hb14⟩
         have HX14 : Hid (w14.heap[X0]? = some (.cells #[.int .i64 x.op, .int .i64 x.dst, .int .i64 x.a, .int .i64 x.b, .int .i64 x.c, .int .i64 x.num, .int .i64 x.too, .string (tx x.ref), .slice VA x.args.length vc] 35 (0, 0))) := lhid (heap_keep HX13.out hb14)
         have HM14 := lhid (HM13.out.below hb14)
         have HB14 : Hid (Below w3.heap.size w3 w14) := lhid (HB9.out.trans ((HBQ.out.trans (hb14.mono HBQ.out.size)).mono HB9.out.size))
         have HW14 : Hid (Below w1.heap.size w1 w14) := lhid (HB3.out.trans (HB14.out.mono HB3.out.size))
         have HAL : Hid (∀ w' : World, Below w14.heap.size w14 w' → (w'.cell? ⟨B0, 0, none⟩ = some (.slice FA R ac) ∧ w'.cell? ⟨B0, 1, none⟩ = some (.slice FB f.params.length bc) ∧ w'.cell? ⟨B0, 2, none⟩ = some (.int .i64 f.ret) ∧ w'.cell? ⟨B0, 3, none⟩ = some (.slice (some ⟨cg, co, none⟩) n dcap) ∧ w'.cell? ⟨B0, 4, none⟩ = some (.slice E f.rows.length ecap)) ∧ w'.cell? ⟨X0, 0, none⟩ = some (.int .i64 x.op) ∧ MI w' mb l.length (mapH l) ∧ TabM f n R w' TB ∧ FuV Tru w' f (.slice FA R ac) (.slice FB f.params.length bc) (.slice (some ⟨cg, co, none⟩) n dcap) (.slice E f.rows.length ecap)) := lhid (fun w' hw' => ⟨HG.out w' (HW14.out.trans (hw'.mono HW14.out.size)), heap_cell (heap_keep HX14.out hw') rfl, HM14.out.below hw', HT3.out.below (HB14.out.trans (hw'.mono HB14.out.size)), HU1.out.below (HW14.out.trans (hw'.mono HW14.out.size))⟩)
         obtain ⟨⟨p0, p1, p2, p3, p4⟩, _, _⟩ := HAL.out w14 (Below.refl _ _)
         clear hb14 q0 q1 q2 q3 q4 q5 q6 q7 q8
         go_wp2_with fail
         clear p0 p1 p2 p3 p4
         go_loopg [66] R (fun g s wq => ∃ r : Nat, g = R - r ∧ s = .int .i64 r ∧ r ≤ R ∧ Hid (Below w14.heap.size w14 wq))
         case atStart => exact ⟨0, rfl, rfl, Nat.zero_le _, lhid (Below.refl _ _)⟩
         case round =>
          obtain ⟨r, rfl, rfl, hr', HBR⟩ := hrel
          by_cases hlr : r < R
          ·as_aux_lemma =>
            have k5 : (r : Int) < R := by omega
            have hwr : wrap64 ((r : Int) + 1) = ((r + 1 : Nat) : Int) := by rw [IntWalk.wrap64_in _ (by have := HSM.out; omega)]; omega
            have HRS : Hid (R - (r + 1) < R - r ∧ r + 1 ≤ R) := lhid (by omega)
            have hsI : I6 (r : Int) := ⟨by omega, by have := HSM.out; omega⟩
            have HSI := lhid hsI
            clear hsI hr' hlr
            by_cases hA : AcrP f f n n R k r
            ·have HA : Hid (true = true ↔ AcrP f f n n R k r) := lhid ⟨fun _ => hA, fun _ => rfl⟩
             have HAt := lhid hA
             have HBt := lhid (acr_bef HC.out HN.out HR.out HX.out hA)
             clear hA
             by_cases hu : (r : Int) ∈ l
             ·have hmh : (mapH l (r : Int)).getD (.int .i64 0) = .int .i64 1 := by unfold mapH; rw [if_pos hu]; rfl
              have HMH := lhid hmh
              clear hmh hu
              by_cases hdr : d = (r : Int)
              ·have hq : (d == (r : Int)) = true := by rw [hdr]; simp
               have HTH : Hid (throwsB x.op = true) := lhid (acr_thr HC.out HN.out HR.out HX.out HAt.out (HD.out.trans hdr))
               clear hdr
               obtain ⟨⟨p0, p1, p2, p3, p4⟩, qx, hmi, htb, hfu⟩ := HAL.out wr HBR.out
               have hlook := (hmi.look Try.underlying37 (zero_int3 wr) HSI.out).1
               rw [HMH.out] at hlook
               have HTB0 := lhid htb
               have HFV0 := lhid hfu
               clear hmi htb hfu
               go_wp2_with fail
               with_reducible refine (across_z HN.out HR.out HTB0 HZS HFV0 hrn HRL (z := true) ⟨fun _ => HAt.out, fun _ => rfl⟩).mono ?_
               rintro e wp1 ⟨rfl, hbz⟩
               have HB1_ : Hid (Below w14.heap.size w14 wp1) := lhid ((HBR.out).trans (hbz.mono (HBR.out).size))
               clear hbz
               clear p0 p1 p2 p3 p4 qx hlook
               obtain ⟨⟨p0, p1, p2, p3, p4⟩, qx, hmi, htb, hfu⟩ := HAL.out wp1 HB1_.out
               have hlook := (hmi.look Try.underlying37 (zero_int3 wp1) HSI.out).1
               rw [HMH.out] at hlook
               have HTB1 := lhid htb
               have HFV1 := lhid hfu
               clear hmi htb hfu
               go_wp2_with fail
               with_reducible refine (before_m HTB1 HZS (z := true) ⟨fun _ => HBt.out, fun _ => rfl⟩).mono ?_
               rintro e wz ⟨rfl, hww⟩
               rw [hww]
               clear hww
               go_wp2_with fail
               with_reducible refine (before_m HTB1 HZS (z := true) ⟨fun _ => HBt.out, fun _ => rfl⟩).mono ?_
               rintro e wz ⟨rfl, hww⟩
               rw [hww]
               clear hww
               go_wp2_with fail
               with_reducible refine (across_z HN.out HR.out HTB1 HZS HFV1 hrn HRL (z := true) ⟨fun _ => HAt.out, fun _ => rfl⟩).mono ?_
               rintro e wp2 ⟨rfl, hbz⟩
               have HB2_ : Hid (Below w14.heap.size w14 wp2) := lhid ((HB1_.out).trans (hbz.mono (HB1_.out).size))
               clear hbz
               clear p0 p1 p2 p3 p4 qx hlook
               obtain ⟨⟨p0, p1, p2, p3, p4⟩, qx, hmi, htb, hfu⟩ := HAL.out wp2 HB2_.out
               have hlook := (hmi.look Try.underlying37 (zero_int3 wp2) HSI.out).1
               rw [HMH.out] at hlook
               have HTB2 := lhid htb
               have HFV2 := lhid hfu
               clear hmi htb hfu
               go_wp2_with fail
               with_reducible refine (rthrows_r x.op true wp2 HTH).mono ?_
               rintro e wp3 ⟨rfl, hbz⟩
               have HB3_ : Hid (Below w14.heap.size w14 wp3) := lhid ((HB2_.out).trans (hbz.mono (HB2_.out).size))
               clear hbz
               clear p0 p1 p2 p3 p4 qx hlook
               obtain ⟨⟨p0, p1, p2, p3, p4⟩, qx, hmi, htb, hfu⟩ := HAL.out wp3 HB3_.out
               have hlook := (hmi.look Try.underlying37 (zero_int3 wp3) HSI.out).1
               rw [HMH.out] at hlook
               have HTB3 := lhid htb
               have HFV3 := lhid hfu
               clear hmi htb hfu
               have HEND : Hid (Below w14.heap.size w14 wp3) := lhid (HB3_.out)
               go_wp2_with fail
               go_roundg (R - (r + 1))
               case measure => exact HRS.out.1
               case rel => exact ⟨r + 1, rfl, by first | rfl | rw [hwr], HRS.out.2, HEND⟩
              ·have hq : (d == (r : Int)) = false := by rw [beq_eq_false_iff_ne]; exact hdr
               clear hdr
               obtain ⟨⟨p0, p1, p2, p3, p4⟩, qx, hmi, htb, hfu⟩ := HAL.out wr HBR.out
               have hlook := (hmi.look Try.underlying37 (zero_int3 wr) HSI.out).1
               rw [HMH.out] at hlook
               have HTB0 := lhid htb
               have HFV0 := lhid hfu
               clear hmi htb hfu
               go_wp2_with fail
               with_reducible refine (across_z HN.out HR.out HTB0 HZS HFV0 hrn HRL (z := true) ⟨fun _ => HAt.out, fun _ => rfl⟩).mono ?_
               rintro e wp1 ⟨rfl, hbz⟩
               have HB1_ : Hid (Below w14.heap.size w14 wp1) := lhid ((HBR.out).trans (hbz.mono (HBR.out).size))
               clear hbz
               clear p0 p1 p2 p3 p4 qx hlook
               obtain ⟨⟨p0, p1, p2, p3, p4⟩, qx, hmi, htb, hfu⟩ := HAL.out wp1 HB1_.out
               have hlook := (hmi.look Try.underlying37 (zero_int3 wp1) HSI.out).1
               rw [HMH.out] at hlook
               have HTB1 := lhid htb
               have HFV1 := lhid hfu
               clear hmi htb hfu
               go_wp2_with fail
               with_reducible refine (before_m HTB1 HZS (z := true) ⟨fun _ => HBt.out, fun _ => rfl⟩).mono ?_
               rintro e wz ⟨rfl, hww⟩
               rw [hww]
               clear hww
               go_wp2_with fail
               with_reducible refine (before_m HTB1 HZS (z := true) ⟨fun _ => HBt.out, fun _ => rfl⟩).mono ?_
               rintro e wz ⟨rfl, hww⟩
               rw [hww]
               clear hww
               have HEND : Hid (Below w14.heap.size w14 wp1) := lhid (HB1_.out)
               go_wp2_with fail
               go_roundg (R - (r + 1))
               case measure => exact HRS.out.1
               case rel => exact ⟨r + 1, rfl, by first | rfl | rw [hwr], HRS.out.2, HEND⟩
             ·have hmh : (mapH l (r : Int)).getD (.int .i64 0) = .int .i64 0 := by unfold mapH; rw [if_neg hu]; rfl
              have HMH := lhid hmh
              clear hmh hu
              by_cases hdr : d = (r : Int)
              ·have hq : (d == (r : Int)) = true := by rw [hdr]; simp
               have HTH : Hid (throwsB x.op = true) := lhid (acr_thr HC.out HN.out HR.out HX.out HAt.out (HD.out.trans hdr))
               clear hdr
               obtain ⟨⟨p0, p1, p2, p3, p4⟩, qx, hmi, htb, hfu⟩ := HAL.out wr HBR.out
               have hlook := (hmi.look Try.underlying37 (zero_int3 wr) HSI.out).1
               rw [HMH.out] at hlook
               have HTB0 := lhid htb
               have HFV0 := lhid hfu
               clear hmi htb hfu
               go_wp2_with fail
               with_reducible refine (across_z HN.out HR.out HTB0 HZS HFV0 hrn HRL (z := true) ⟨fun _ => HAt.out, fun _ => rfl⟩).mono ?_
               rintro e wp1 ⟨rfl, hbz⟩
               have HB1_ : Hid (Below w14.heap.size w14 wp1) := lhid ((HBR.out).trans (hbz.mono (HBR.out).size))
               clear hbz
               clear p0 p1 p2 p3 p4 qx hlook
               obtain ⟨⟨p0, p1, p2, p3, p4⟩, qx, hmi, htb, hfu⟩ := HAL.out wp1 HB1_.out
               have hlook := (hmi.look Try.underlying37 (zero_int3 wp1) HSI.out).1
               rw [HMH.out] at hlook
               have HTB1 := lhid htb
               have HFV1 := lhid hfu
               clear hmi htb hfu
               go_wp2_with fail
               with_reducible refine (before_m HTB1 HZS (z := true) ⟨fun _ => HBt.out, fun _ => rfl⟩).mono ?_
               rintro e wz ⟨rfl, hww⟩
               rw [hww]
               clear hww
               go_wp2_with fail
               with_reducible refine (before_m HTB1 HZS (z := true) ⟨fun _ => HBt.out, fun _ => rfl⟩).mono ?_
               rintro e wz ⟨rfl, hww⟩
               rw [hww]
               clear hww
               go_wp2_with fail
               with_reducible refine (across_z HN.out HR.out HTB1 HZS HFV1 hrn HRL (z := true) ⟨fun _ => HAt.out, fun _ => rfl⟩).mono ?_
               rintro e wp2 ⟨rfl, hbz⟩
               have HB2_ : Hid (Below w14.heap.size w14 wp2) := lhid ((HB1_.out).trans (hbz.mono (HB1_.out).size))
               clear hbz
               clear p0 p1 p2 p3 p4 qx hlook
               obtain ⟨⟨p0, p1, p2, p3, p4⟩, qx, hmi, htb, hfu⟩ := HAL.out wp2 HB2_.out
               have hlook := (hmi.look Try.underlying37 (zero_int3 wp2) HSI.out).1
               rw [HMH.out] at hlook
               have HTB2 := lhid htb
               have HFV2 := lhid hfu
               clear hmi htb hfu
               go_wp2_with fail
               with_reducible refine (across_z HN.out HR.out HTB2 HZS HFV2 hrn HRL (z := true) ⟨fun _ => HAt.out, fun _ => rfl⟩).mono ?_
               rintro e wp3 ⟨rfl, hbz⟩
               have HB3_ : Hid (Below w14.heap.size w14 wp3) := lhid ((HB2_.out).trans (hbz.mono (HB2_.out).size))
               clear hbz
               clear p0 p1 p2 p3 p4 qx hlook
               obtain ⟨⟨p0, p1, p2, p3, p4⟩, qx, hmi, htb, hfu⟩ := HAL.out wp3 HB3_.out
               have hlook := (hmi.look Try.underlying37 (zero_int3 wp3) HSI.out).1
               rw [HMH.out] at hlook
               have HTB3 := lhid htb
               have HFV3 := lhid hfu
               clear hmi htb hfu
               go_wp2_with fail
               with_reducible refine (rthrows_r x.op true wp3 HTH).mono ?_
               rintro e wp4 ⟨rfl, hbz⟩
               have HB4_ : Hid (Below w14.heap.size w14 wp4) := lhid ((HB3_.out).trans (hbz.mono (HB3_.out).size))
               clear hbz
               clear p0 p1 p2 p3 p4 qx hlook
               obtain ⟨⟨p0, p1, p2, p3, p4⟩, qx, hmi, htb, hfu⟩ := HAL.out wp4 HB4_.out
               have hlook := (hmi.look Try.underlying37 (zero_int3 wp4) HSI.out).1
               rw [HMH.out] at hlook
               have HTB4 := lhid htb
               have HFV4 := lhid hfu
               clear hmi htb hfu
               have HEND : Hid (Below w14.heap.size w14 wp4) := lhid (HB4_.out)
               go_wp2_with fail
               go_roundg (R - (r + 1))
               case measure => exact HRS.out.1
               case rel => exact ⟨r + 1, rfl, by first | rfl | rw [hwr], HRS.out.2, HEND⟩
              ·have hq : (d == (r : Int)) = false := by rw [beq_eq_false_iff_ne]; exact hdr
               clear hdr
               obtain ⟨⟨p0, p1, p2, p3, p4⟩, qx, hmi, htb, hfu⟩ := HAL.out wr HBR.out
               have hlook := (hmi.look Try.underlying37 (zero_int3 wr) HSI.out).1
               rw [HMH.out] at hlook
               have HTB0 := lhid htb
               have HFV0 := lhid hfu
               clear hmi htb hfu
               go_wp2_with fail
               with_reducible refine (across_z HN.out HR.out HTB0 HZS HFV0 hrn HRL (z := true) ⟨fun _ => HAt.out, fun _ => rfl⟩).mono ?_
               rintro e wp1 ⟨rfl, hbz⟩
               have HB1_ : Hid (Below w14.heap.size w14 wp1) := lhid ((HBR.out).trans (hbz.mono (HBR.out).size))
               clear hbz
               clear p0 p1 p2 p3 p4 qx hlook
               obtain ⟨⟨p0, p1, p2, p3, p4⟩, qx, hmi, htb, hfu⟩ := HAL.out wp1 HB1_.out
               have hlook := (hmi.look Try.underlying37 (zero_int3 wp1) HSI.out).1
               rw [HMH.out] at hlook
               have HTB1 := lhid htb
               have HFV1 := lhid hfu
               clear hmi htb hfu
               go_wp2_with fail
               with_reducible refine (before_m HTB1 HZS (z := true) ⟨fun _ => HBt.out, fun _ => rfl⟩).mono ?_
               rintro e wz ⟨rfl, hww⟩
               rw [hww]
               clear hww
               go_wp2_with fail
               with_reducible refine (before_m HTB1 HZS (z := true) ⟨fun _ => HBt.out, fun _ => rfl⟩).mono ?_
               rintro e wz ⟨rfl, hww⟩
               rw [hww]
               clear hww
               go_wp2_with fail
               with_reducible refine (across_z HN.out HR.out HTB1 HZS HFV1 hrn HRL (z := true) ⟨fun _ => HAt.out, fun _ => rfl⟩).mono ?_
               rintro e wp2 ⟨rfl, hbz⟩
               have HB2_ : Hid (Below w14.heap.size w14 wp2) := lhid ((HB1_.out).trans (hbz.mono (HB1_.out).size))
               clear hbz
               clear p0 p1 p2 p3 p4 qx hlook
               obtain ⟨⟨p0, p1, p2, p3, p4⟩, qx, hmi, htb, hfu⟩ := HAL.out wp2 HB2_.out
               have hlook := (hmi.look Try.underlying37 (zero_int3 wp2) HSI.out).1
               rw [HMH.out] at hlook
               have HTB2 := lhid htb
               have HFV2 := lhid hfu
               clear hmi htb hfu
               have HEND : Hid (Below w14.heap.size w14 wp2) := lhid (HB2_.out)
               go_wp2_with fail
               go_roundg (R - (r + 1))
               case measure => exact HRS.out.1
               case rel => exact ⟨r + 1, rfl, by first | rfl | rw [hwr], HRS.out.2, HEND⟩
            ·have HAf := lhid hA
             by_cases hB : BefP f n R k r
             ·have HBt := lhid hB
              have hu : (r : Int) ∈ l := Classical.byContradiction fun hn => hA (bef_acr HC.out HN.out HR.out HX.out hB (by rw [HL.out]; exact hn))
              have hmh : (mapH l (r : Int)).getD (.int .i64 0) = .int .i64 1 := by unfold mapH; rw [if_pos hu]; rfl
              have HMH := lhid hmh
              clear hmh hu hA hB
              by_cases hdr : d = (r : Int)
              ·have hq : (d == (r : Int)) = true := by rw [hdr]; simp
               clear hdr
               obtain ⟨⟨p0, p1, p2, p3, p4⟩, qx, hmi, htb, hfu⟩ := HAL.out wr HBR.out
               have hlook := (hmi.look Try.underlying37 (zero_int3 wr) HSI.out).1
               rw [HMH.out] at hlook
               have HTB0 := lhid htb
               have HFV0 := lhid hfu
               clear hmi htb hfu
               go_wp2_with fail
               with_reducible refine (across_z HN.out HR.out HTB0 HZS HFV0 hrn HRL (z := false) ⟨fun h => (by cases h), fun h => absurd h HAf.out⟩).mono ?_
               rintro e wp1 ⟨rfl, hbz⟩
               have HB1_ : Hid (Below w14.heap.size w14 wp1) := lhid ((HBR.out).trans (hbz.mono (HBR.out).size))
               clear hbz
               clear p0 p1 p2 p3 p4 qx hlook
               obtain ⟨⟨p0, p1, p2, p3, p4⟩, qx, hmi, htb, hfu⟩ := HAL.out wp1 HB1_.out
               have hlook := (hmi.look Try.underlying37 (zero_int3 wp1) HSI.out).1
               rw [HMH.out] at hlook
               have HTB1 := lhid htb
               have HFV1 := lhid hfu
               clear hmi htb hfu
               go_wp2_with fail
               with_reducible refine (before_m HTB1 HZS (z := true) ⟨fun _ => HBt.out, fun _ => rfl⟩).mono ?_
               rintro e wz ⟨rfl, hww⟩
               rw [hww]
               clear hww
               go_wp2_with fail
               with_reducible refine (across_z HN.out HR.out HTB1 HZS HFV1 hrn HRL (z := false) ⟨fun h => (by cases h), fun h => absurd h HAf.out⟩).mono ?_
               rintro e wp2 ⟨rfl, hbz⟩
               have HB2_ : Hid (Below w14.heap.size w14 wp2) := lhid ((HB1_.out).trans (hbz.mono (HB1_.out).size))
               clear hbz
               clear p0 p1 p2 p3 p4 qx hlook
               obtain ⟨⟨p0, p1, p2, p3, p4⟩, qx, hmi, htb, hfu⟩ := HAL.out wp2 HB2_.out
               have hlook := (hmi.look Try.underlying37 (zero_int3 wp2) HSI.out).1
               rw [HMH.out] at hlook
               have HTB2 := lhid htb
               have HFV2 := lhid hfu
               clear hmi htb hfu
               have HEND : Hid (Below w14.heap.size w14 wp2) := lhid (HB2_.out)
               go_wp2_with fail
               go_roundg (R - (r + 1))
               case measure => exact HRS.out.1
               case rel => exact ⟨r + 1, rfl, by first | rfl | rw [hwr], HRS.out.2, HEND⟩
              ·have hq : (d == (r : Int)) = false := by rw [beq_eq_false_iff_ne]; exact hdr
               clear hdr
               obtain ⟨⟨p0, p1, p2, p3, p4⟩, qx, hmi, htb, hfu⟩ := HAL.out wr HBR.out
               have hlook := (hmi.look Try.underlying37 (zero_int3 wr) HSI.out).1
               rw [HMH.out] at hlook
               have HTB0 := lhid htb
               have HFV0 := lhid hfu
               clear hmi htb hfu
               go_wp2_with fail
               with_reducible refine (across_z HN.out HR.out HTB0 HZS HFV0 hrn HRL (z := false) ⟨fun h => (by cases h), fun h => absurd h HAf.out⟩).mono ?_
               rintro e wp1 ⟨rfl, hbz⟩
               have HB1_ : Hid (Below w14.heap.size w14 wp1) := lhid ((HBR.out).trans (hbz.mono (HBR.out).size))
               clear hbz
               clear p0 p1 p2 p3 p4 qx hlook
               obtain ⟨⟨p0, p1, p2, p3, p4⟩, qx, hmi, htb, hfu⟩ := HAL.out wp1 HB1_.out
               have hlook := (hmi.look Try.underlying37 (zero_int3 wp1) HSI.out).1
               rw [HMH.out] at hlook
               have HTB1 := lhid htb
               have HFV1 := lhid hfu
               clear hmi htb hfu
               go_wp2_with fail
               with_reducible refine (before_m HTB1 HZS (z := true) ⟨fun _ => HBt.out, fun _ => rfl⟩).mono ?_
               rintro e wz ⟨rfl, hww⟩
               rw [hww]
               clear hww
               have HEND : Hid (Below w14.heap.size w14 wp1) := lhid (HB1_.out)
               go_wp2_with fail
               go_roundg (R - (r + 1))
               case measure => exact HRS.out.1
               case rel => exact ⟨r + 1, rfl, by first | rfl | rw [hwr], HRS.out.2, HEND⟩
             ·have HBf := lhid hB
              clear hA hB
              by_cases hdr : d = (r : Int)
              ·have hq : (d == (r : Int)) = true := by rw [hdr]; simp
               clear hdr
               obtain ⟨⟨p0, p1, p2, p3, p4⟩, qx, hmi, htb, hfu⟩ := HAL.out wr HBR.out
               have HTB0 := lhid htb
               have HFV0 := lhid hfu
               clear hmi htb hfu
               go_wp2_with fail
               with_reducible refine (across_z HN.out HR.out HTB0 HZS HFV0 hrn HRL (z := false) ⟨fun h => (by cases h), fun h => absurd h HAf.out⟩).mono ?_
               rintro e wp1 ⟨rfl, hbz⟩
               have HB1_ : Hid (Below w14.heap.size w14 wp1) := lhid ((HBR.out).trans (hbz.mono (HBR.out).size))
               clear hbz
               clear p0 p1 p2 p3 p4 qx
               obtain ⟨⟨p0, p1, p2, p3, p4⟩, qx, hmi, htb, hfu⟩ := HAL.out wp1 HB1_.out
               have HTB1 := lhid htb
               have HFV1 := lhid hfu
               clear hmi htb hfu
               go_wp2_with fail
               with_reducible refine (before_m HTB1 HZS (z := false) ⟨fun h => (by cases h), fun h => absurd h HBf.out⟩).mono ?_
               rintro e wz ⟨rfl, hww⟩
               rw [hww]
               clear hww
               go_wp2_with fail
               with_reducible refine (across_z HN.out HR.out HTB1 HZS HFV1 hrn HRL (z := false) ⟨fun h => (by cases h), fun h => absurd h HAf.out⟩).mono ?_
               rintro e wp2 ⟨rfl, hbz⟩
               have HB2_ : Hid (Below w14.heap.size w14 wp2) := lhid ((HB1_.out).trans (hbz.mono (HB1_.out).size))
               clear hbz
               clear p0 p1 p2 p3 p4 qx
               obtain ⟨⟨p0, p1, p2, p3, p4⟩, qx, hmi, htb, hfu⟩ := HAL.out wp2 HB2_.out
               have HTB2 := lhid htb
               have HFV2 := lhid hfu
               clear hmi htb hfu
               have HEND : Hid (Below w14.heap.size w14 wp2) := lhid (HB2_.out)
               go_wp2_with fail
               go_roundg (R - (r + 1))
               case measure => exact HRS.out.1
               case rel => exact ⟨r + 1, rfl, by first | rfl | rw [hwr], HRS.out.2, HEND⟩
              ·have hq : (d == (r : Int)) = false := by rw [beq_eq_false_iff_ne]; exact hdr
               clear hdr
               obtain ⟨⟨p0, p1, p2, p3, p4⟩, qx, hmi, htb, hfu⟩ := HAL.out wr HBR.out
               have HTB0 := lhid htb
               have HFV0 := lhid hfu
               clear hmi htb hfu
               go_wp2_with fail
               with_reducible refine (across_z HN.out HR.out HTB0 HZS HFV0 hrn HRL (z := false) ⟨fun h => (by cases h), fun h => absurd h HAf.out⟩).mono ?_
               rintro e wp1 ⟨rfl, hbz⟩
               have HB1_ : Hid (Below w14.heap.size w14 wp1) := lhid ((HBR.out).trans (hbz.mono (HBR.out).size))
               clear hbz
               clear p0 p1 p2 p3 p4 qx
               obtain ⟨⟨p0, p1, p2, p3, p4⟩, qx, hmi, htb, hfu⟩ := HAL.out wp1 HB1_.out
               have HTB1 := lhid htb
               have HFV1 := lhid hfu
               clear hmi htb hfu
               go_wp2_with fail
               with_reducible refine (before_m HTB1 HZS (z := false) ⟨fun h => (by cases h), fun h => absurd h HBf.out⟩).mono ?_
               rintro e wz ⟨rfl, hww⟩
               rw [hww]
               clear hww
               have HEND : Hid (Below w14.heap.size w14 wp1) := lhid (HB1_.out)
               go_wp2_with fail
               go_roundg (R - (r + 1))
               case measure => exact HRS.out.1
               case rel => exact ⟨r + 1, rfl, by first | rfl | rw [hwr], HRS.out.2, HEND⟩
          ·have k5 : ¬ (r : Int) < R := by omega
           have HBX : Hid (Below w3.heap.size w3 wr) := lhid (HB14.out.trans (HBR.out.mono HB14.out.size))
           clear hr' hlr
           go_wp2_with fail
           go_roundg (n - (k + 1))
           case measure => exact HMS.out.1
           case rel => exact ⟨k + 1, rfl, by first | rfl | rw [hwk], HMS.out.2, HBX⟩
     ·have k3 : ¬ (k : Int) < n := by omega
      have HW1 : Hid (Below w1.heap.size w1 wr) := lhid (HB3.out.trans (HBr.out.mono HB3.out.size))
      obtain ⟨p0, p1, p2, p3, p4⟩ := HG.out wr HW1.out
      have HUr := lhid (HU1.out.below HW1.out)
      clear hk hlt
      go_wp2_with fail
      with_reducible refine (before_nil ia ra wr).mono ?_
      rintro e wz ⟨rfl, hww⟩
      rw [hww]
      clear hww
      go_wp2_with fail
      with_reducible refine (after_nil ia ra wr).mono ?_
      rintro e wz ⟨rfl, hbz⟩
      have HWz : Hid (Below w1.heap.size w1 wz) := lhid (HW1.out.trans (hbz.mono HW1.out.size))
      clear p0 p1 p2 p3 p4 hbz
      obtain ⟨p0, p1, p2, p3, p4⟩ := HG.out wz HWz.out
      go_wp2_with fail
      with_reducible refine (across_nil2 f n R HN.out HR.out _ _ _ _ ia ra wz (lhid (HU1.out.below HWz.out)) hrn HRL).mono ?_
      rintro e wy ⟨rfl, hby⟩
      have HWy : Hid (Below w1.heap.size w1 wy) := lhid (HWz.out.trans (hby.mono HWz.out.size))
      clear p0 p1 p2 p3 p4 hby
      go_wp2_with fail
      go_ret
      exact ⟨rfl, HB1.out.trans (HWy.out.mono HB1.out.size)⟩
   ·have hc1 : (c != 0) = true := by simpa using hck
    go_wp2_with fail
    go_ret
    exact ⟨rfl, HB1.out.trans (HB2.out.mono HB1.out.size)⟩
end Go.Proofs.Ytoommeiiadobfaa
