/- Contract of the document's Parse. Its loop over the methods. Written by gen_ref8l.py. -/
import Derived.Test.YtgihfcimngogfaaGreatJFileTwiceR
import Derived.Test.YtgihfcimngogfaaGreatM15
import Derived.Test.YtgihfcimngogfaaGreatM17
import Derived.Laws.AppendOwn
import Derived.Deep.AppendLies
import Derived.Deep.RegionLaw
import Derived.Deep.CutBlock
import Derived.Deep.RegionHeld3
namespace Go.Proofs.YtgihfcimngogfaaGreat
open Go.RowKit Go
set_option linter.unusedVariables false
theorem grown_below {B : Nat} {w w' : World} {row : Option Nat} (hg : w.grownBy w' row) (hr : ∀ k, row = some k → B ≤ k) (hB : B ≤ w.heap.size) : Below B w w' :=
 ⟨hg.os, hg.tape, hg.output, hg.size, fun k hk => hg.block k (by omega) (fun e => by have := hr k e.symm; omega)⟩
theorem refRead_both (X : Tl) (B M : Nat) (v : Value) (Lb : Bs) (s : St) (w : World) (h : Hid (DocS X B w M v Lb s)) :
  Calls Tryz.prog 47 #[.pointer (some ⟨M, 0, none⟩)] w fun e w' => ∃ (pA : Option Addr) (pn g : Nat) (L : List Con), e = .returned (.tuple #[.slice pA pn pn, .int .i64 (poolX s)]) ∧ DocS X B w' M v Lb (poolS s) ∧ Only M w w' ∧ (poolX s = 0 → L = poolL s ∧ Value.slice pA pn pn = .slice (some ⟨g, 0, none⟩) L.length L.length ∧ RowsAt w' g 39 5 (L.map conV) ∧ g ≠ M) ∧ (∀ c, c ∈ L → GoodC c) ∧ L.length ≤ 1000 := by
 by_cases hx : poolX s = 0
 ·refine (refRead_ok X B M v Lb s (poolL s) w h (lhid hx) (lhid rfl)).mono ?_
  rintro e w' ⟨⟨g, rfl, h1, h2⟩, h3, h4⟩
  have hml := h.out.doc.lt
  exact ⟨_, _, g, poolL s, by rw [hx]; rfl, h3, h4, fun _ => ⟨rfl, rfl, h2, by omega⟩, poolL_good hx, poolL_len s hx⟩
 ·refine (refRead_err X B M v Lb s (poolX s) w h (lhid rfl) hx).mono ?_
  rintro e w' ⟨rfl, h3, h4⟩
  exact ⟨_, _, 0, [], rfl, h3, h4, fun h0 => absurd h0 hx, fun c hc => by simp at hc, Nat.zero_le _⟩
theorem rf_begin {B M g : Nat} {v pv : Value} {Lb : Bs} {s : St} {x : Nat} {L : List Con} {w : World} (h : DocS (tlR (.slice none 0 0) 0) B w M v Lb s) (hp : x = 0 → pv = .slice (some ⟨g, 0, none⟩) L.length L.length ∧ RowsAt w g 39 5 (L.map conV) ∧ g ≠ M) (hg : ∀ c, c ∈ L → GoodC c) (hl : L.length ≤ 1000) :
  Rf ⟨B, M, g, v, pv, Lb, L⟩ (x, s) ((w.setCell ⟨M, 3, none⟩ pv).setCell ⟨M, 4, none⟩ (.int .i64 x)) := by
 have ho : Only M w ((w.setCell ⟨M, 3, none⟩ pv).setCell ⟨M, 4, none⟩ (.int .i64 x)) := ((Only.refl M w).own 3 _).own 4 _
 refine ⟨⟨?_, h.le, h.suf, rdB_below h.rd h.low (ho.below h.base h.bw), h.base, h.low, Nat.le_trans h.bw ho.size⟩, fun h0 => ⟨(hp h0).1, (hp h0).2.1.keep ho (hp h0).2.2, (hp h0).2.2⟩, hg, hl⟩
 unfold Doc
 rw [heap_set (heap_set h.doc _) _]
 rfl
theorem docS_reader {B : Nat} {w : World} {v : Value} {L : Bs} (h : RdB w v L) (hl : L = [] ∨ ∀ x, v.ownBlock = some x → x < B) (hB : B ≤ w.heap.size) :
  DocS (tlR (.slice none 0 0) 0) B (w.alloc (.cells #[v, .int .i64 0, .bool false, .slice none 0 0, .int .i64 0] 94)) w.heap.size v L (L, false) := by
 refine ⟨?_, Nat.le_refl _, by simp, rdB_below h hl ((Below.refl B w).alloc hB _), hB, hl, by simp; omega⟩
 have := heap_alloc_new w (.cells #[v, .int .i64 0, .bool false, .slice none 0 0, .int .i64 0] 94)
 unfold Doc
 rw [this]
 simp
theorem Rf.c1 {ρ : Rc} {σ : Sg} {w : World} (h : Rf ρ σ w) : w.cell? ⟨ρ.M, 1, none⟩ = some (.int .i64 ((ρ.Lb.length - σ.2.1.length : Nat) : Int)) := h.d.doc.c1
theorem rEnd_23 {c : Cls} {σ : Sg} (h0 : σ.1 = 0) (hr : σ.2.1 = []) (ht : twC c = true) : (rEnd c σ).1 = 23 := by
 have e1 : rEnd1 σ = σ := by unfold rEnd1; rw [if_neg (fun h => h.2 hr)]
 unfold rEnd rEnd2
 rw [e1, if_pos ⟨h0, ht⟩, wrS_new 23 h0]
theorem rEnd_0 {c : Cls} {σ : Sg} (h0 : σ.1 = 0) (hr : σ.2.1 = []) (ht : ¬ twC c = true) : (rEnd c σ).1 = 0 := by
 have e1 : rEnd1 σ = σ := by unfold rEnd1; rw [if_neg (fun h => h.2 hr)]
 unfold rEnd rEnd2
 rw [e1, if_neg (fun h => ht h.2)]
 exact h0
theorem rEnd_11 {c : Cls} {σ : Sg} (h0 : σ.1 = 0) (hr : σ.2.1 ≠ []) : (rEnd c σ).1 = 11 := by
 have e1 : rEnd1 σ = (11, σ.2) := by unfold rEnd1; rw [if_pos ⟨h0, hr⟩, wrS_new 11 h0]
 unfold rEnd rEnd2
 rw [e1, if_neg (fun h => absurd h.1 (show ¬ (11 : Nat) = 0 by decide))]
theorem tw_link (c : Cls) : (¬ ((clI c).fields.map FlI.name).Nodup ∨ ¬ ((clI c).methods.map mkI).Nodup) ↔ twC c = true := by
 have e1 : ∀ l : List (Bs × Bs), twiceB l = true ↔ ¬ l.Nodup := fun l => ⟨fun h hn => (by rw [twiceB_no hn] at h; cases h), twiceB_yes⟩
 have e2 : ((clI c).fields.map FlI.name).Nodup ↔ (fKeys c).Nodup := by
  unfold fKeys clI List.Nodup
  rw [List.pairwise_map, List.pairwise_map, List.pairwise_map]
  simp [flI]
 have e3 : ((clI c).methods.map mkI).Nodup ↔ (mKeys c).Nodup := by
  unfold mKeys clI List.Nodup
  rw [List.pairwise_map, List.pairwise_map, List.pairwise_map]
  simp [meI, mkI]
 unfold twC
 rw [Bool.or_eq_true, e1, e1, e2, e3]
def findB (k : Nat) : Code → Option Code
 | .block n c => if n = k then some (.block n c) else findB k c
 | .seq a b => match findB k a with
  | some c => some c
  | none => findB k b
 | .loop c => findB k c
 | .scope c => findB k c
 | .cond _ a b => match findB k a with
  | some c => some c
  | none => findB k b
 | _ => none
set_option maxHeartbeats 64000000 in
set_option maxRecDepth 100000 in
theorem rparse_loop3 (l : Bs) (w wn7 : World) (A : Option Addr) (cap : Nat) (ρ : Rc) (X cf : Nat) (nm sp : Bs) (is : List Bs) (iA : Option Addr) (ic : Nat) (pA : Option Addr) (pn : Nat) (fs : List Fld) (fA : Option Addr) (fc : Nat) (n3 : Nat) (t9 : Sg) (ms : List Met) (tz : Sg) (hnle4 : n3 ≤ 60) (HXM : Hid (X ≠ ρ.M)) (HXw : Hid (w.heap.size ≤ X)) (HZX : Hid (w.heap.size ≠ X)) (HZM : Hid (w.heap.size ≠ ρ.M)) (HMw : Hid (w.heap.size ≤ ρ.M)) (HXB : Hid (ρ.B ≤ X)) (HρB : Hid (ρ.B = w.heap.size)) (HXn7 : Hid (wn7.heap[X]? = some (.cells #[.int .i64 cf, .string (tx nm), .string (tx sp), .slice iA is.length ic, .slice pA pn pn, .slice fA fs.length fc, .slice none 0 0] 27 (0, 0)))) (HRn7 : Hid (Rf ρ t9 wn7)) (HBn7 : Hid (Below w.heap.size w wn7)) (HZn7 : Hid (wn7.heap[w.heap.size]? = some zC)) (HIn7 : Hid (StrsO wn7 (.slice iA is.length ic) is)) (HFn7 : Hid (FldsO wn7 (.slice fA fs.length fc) fs)) (HKL4 : Hid (manyR (rMet ρ.L cf) n3 [] t9 = (ms, tz))) (u7 u8 u9 u11 u12 u13 u14 u15 u16 u17 u18 u19 u20 u21 u22 u23 u24 u25 u26 u27 u28 u29 u30 u31 u32 u33 u34 u35 u36 u37 u38 u39 u40 u41 u42 u43 u44 u45 u46 u47 u48 u49 u50 u51 u52 u53 u54 u55 u56 u57 u58 u59 u60 u61 u62 u63 u64 u65 u66 u67 u68 u69 u70 u71 u72 u73 u74 u75 u76 u77 u78 u79 u80 u81 u82 u83 u84 u85 u86 u87 u88 u89 u90 u91 u92 u93 u94 u95 u96 u97 u98 u99 u100 u101 u102 u103 u104 u105 u106 u107 u108 u109 u110 u111 u112 u113 u114 u115 u116 u117 u118 u119 u120 u121 u122 u123 u124 u125 u126 u127 u128 u129 u130 u131 u132 u133 u134 u135 u136 u137 u138 u139 u140 u141 u142 u143 u144 u145 u146 u147 u148 u149 u150 u151 u152 u153 u154 u155 u156 u157 u158 u159 u160 u161 u162 u163 u164 u165 u166 u167 u168 u169 u170 u171 u172 u173 u174 u175 u176 u177 u178 : Value) (K3 : Act → World → Prop)
  (HK3 : Hid (∀ (wc : World) (v10 v11 v12 v13 v14 v15 v16 v17 v18 v19 v20 v21 v22 v23 v24 v25 v26 v27 v28 v29 v30 v31 v32 v33 v34 v35 v36 v37 v38 v39 v40 v41 v42 v43 v44 v45 v46 v47 v48 v49 v50 v51 v52 v53 v54 v55 v56 v57 v58 v59 v60 v61 v62 v63 v64 v65 v66 v67 v68 v69 v70 v71 v72 v73 v74 v75 v76 v77 v78 v79 v80 v81 v82 v83 v84 v85 v86 v87 v88 v89 v90 v91 v92 v93 v94 v95 v96 v97 v98 v99 v100 v101 v102 v103 v104 v105 v106 v107 v108 v109 v110 v111 v112 v113 v114 v115 v116 v117 v118 v119 v120 v121 v122 v123 v124 v125 v126 v127 v128 v129 v130 v131 v132 v133 v134 v135 v136 v137 v138 v139 v140 v141 v142 v143 v144 v145 v146 v147 v148 v149 v150 v151 v152 v153 v154 v155 v156 v157 v158 v159 v160 v161 v162 v163 v164 v165 v166 v167 v168 v169 v170 v171 v172 v173 v174 v175 v176 v177 v178 : Value), (∃ (A : Option Addr) (c : Nat) (xs : List Value), Hid (wc.heap[X]? = some (.cells #[.int .i64 cf, .string (tx nm), .string (tx sp), .slice iA is.length ic, .slice pA pn pn, .slice fA fs.length fc, .slice A ms.length c] 27 (0, 0))) ∧ Hid (wc.ownsRow w.heap.size 62 8 (.slice A ms.length c) ms.length xs) ∧ Hid (ListE (MetE wc) ms xs) ∧ Hid (Rf ρ tz wc) ∧ Hid (Below w.heap.size w wc) ∧ Hid (wc.heap[w.heap.size]? = some zC) ∧ Hid (StrsO wc (.slice iA is.length ic) is) ∧ Hid (FldsO wc (.slice fA fs.length fc) fs)) → K3 ⟨#[.slice A l.length cap, undef, .pointer (some ⟨w.heap.size, 0, none⟩), .int .i64 0, .pointer (some ⟨ρ.M, 0, none⟩), .pointer (some ⟨X, 0, none⟩), .int .i64 n3, u7, u8, u9, v10, v11, v12, v13, v14, v15, v16, v17, v18, v19, v20, v21, v22, v23, v24, v25, v26, v27, v28, v29, v30, v31, v32, v33, v34, v35, v36, v37, v38, v39, v40, v41, v42, v43, v44, v45, v46, v47, v48, v49, v50, v51, v52, v53, v54, v55, v56, v57, v58, v59, v60, v61, v62, v63, v64, v65, v66, v67, v68, v69, v70, v71, v72, v73, v74, v75, v76, v77, v78, v79, v80, v81, v82, v83, v84, v85, v86, v87, v88, v89, v90, v91, v92, v93, v94, v95, v96, v97, v98, v99, v100, v101, v102, v103, v104, v105, v106, v107, v108, v109, v110, v111, v112, v113, v114, v115, v116, v117, v118, v119, v120, v121, v122, v123, v124, v125, v126, v127, v128, v129, v130, v131, v132, v133, v134, v135, v136, v137, v138, v139, v140, v141, v142, v143, v144, v145, v146, v147, v148, v149, v150, v151, v152, v153, v154, v155, v156, v157, v158, v159, v160, v161, v162, v163, v164, v165, v166, v167, v168, v169, v170, v171, v172, v173, v174, v175, v176, v177, v178], []⟩ wc)) :
  Code.wp Tryz.prog ((Tryz.f27.body.bind (findB 4)).getD .skip) (Exit.then K3 (bodyPost Tryz.prog Tryz.f27 (POut (parP l) w))) ⟨#[.slice A l.length cap, undef, .pointer (some ⟨w.heap.size, 0, none⟩), .int .i64 0, .pointer (some ⟨ρ.M, 0, none⟩), .pointer (some ⟨X, 0, none⟩), .int .i64 n3, u7, u8, u9, .int .i64 0, u11, u12, u13, u14, u15, u16, u17, u18, u19, u20, u21, u22, u23, u24, u25, u26, u27, u28, u29, u30, u31, u32, u33, u34, u35, u36, u37, u38, u39, u40, u41, u42, u43, u44, u45, u46, u47, u48, u49, u50, u51, u52, u53, u54, u55, u56, u57, u58, u59, u60, u61, u62, u63, u64, u65, u66, u67, u68, u69, u70, u71, u72, u73, u74, u75, u76, u77, u78, u79, u80, u81, u82, u83, u84, u85, u86, u87, u88, u89, u90, u91, u92, u93, u94, u95, u96, u97, u98, u99, u100, u101, u102, u103, u104, u105, u106, u107, u108, u109, u110, u111, u112, u113, u114, u115, u116, u117, u118, u119, u120, u121, u122, u123, u124, u125, u126, u127, u128, u129, u130, u131, u132, u133, u134, u135, u136, u137, u138, u139, u140, u141, u142, u143, u144, u145, u146, u147, u148, u149, u150, u151, u152, u153, u154, u155, u156, u157, u158, u159, u160, u161, u162, u163, u164, u165, u166, u167, u168, u169, u170, u171, u172, u173, u174, u175, u176, u177, u178], []⟩ wn7 := by
 conv => arg 2; whnf
 obtain ⟨i0, hi0, hz0, hz1, hz2⟩ := info_parts infoMet
 go_wp2_with fail
 go_loopw [10] (fun i wr => ∃ (acc : List Met) (σ' : Sg) (A2 : Option Addr) (c2 : Nat) (xs : List Value), i = .int .i64 acc.length ∧ acc.length ≤ n3 ∧ Hid (wr.heap[X]? = some (.cells #[.int .i64 cf, .string (tx nm), .string (tx sp), .slice iA is.length ic, .slice pA pn pn, .slice fA fs.length fc, .slice A2 acc.length c2] 27 (0, 0))) ∧ Hid (wr.ownsRow w.heap.size 62 8 (.slice A2 acc.length c2) acc.length xs) ∧ Hid (ListE (MetE wr) acc xs) ∧ Hid (Rf ρ σ' wr) ∧ Hid (Below w.heap.size w wr) ∧ Hid (wr.heap[w.heap.size]? = some zC) ∧ Hid (StrsO wr (.slice iA is.length ic) is) ∧ Hid (FldsO wr (.slice fA fs.length fc) fs) ∧ Hid (manyR (rMet ρ.L cf) (n3 - acc.length) acc σ' = (ms, tz))) (fun i _ => n3 - (intOf i).toNat)
 case atStart => exact ⟨[], _, none, 0, [], rfl, Nat.zero_le _, HXn7, lhid (World.ownsRow_nil _ _ _ _), lhid rfl, HRn7, HBn7, HZn7, HIn7, HFn7, HKL4⟩
 case round =>
  obtain ⟨acc, σ', A2, c2, xs, rfl, hle, HXr, HWr, HEr, HRr, HBr, HZr, HIr, HFr, HM⟩ := hrel
  clear HXn7 HRn7 HBn7 HZn7 HKL4 HIn7 HFn7
  have c4 := HRr.out.c4
  by_cases hlt : acc.length < n3
  ·have hlt2 : (acc.length : Int) < n3 := by omega
   by_cases h0 : σ'.1 = 0
   ·have t0 : ((σ'.1 : Int) == 0) = true := by rw [h0]; rfl
    have H0 := lhid h0
    clear h0
    obtain ⟨⟨mm, τ1⟩, hk⟩ : ∃ p, rMet ρ.L cf σ' = p := ⟨_, rfl⟩
    have HROW := lhid hk
    clear hk
    have h63 : acc.length + 1 ≤ maxLen := by unfold maxLen; omega
    have hby : (acc.length + 1) * 128 ≤ 140737488355328 := by omega
    have xr := heap_cell (i := 6) HXr.out rfl
    have x0 := heap_cell (i := 0) HXr.out rfl
    have HRd : Hid (Rf ρ σ' wr.drew) := lhid (HRr.out.drewN 1)
    go_upto_region 30 with fail
    refine wp_region_any (by kernel_rfl) ?_
    try (change wpAny _ _ _ _ _ _ _ (World.drew _))
    refine wpAny_take (i := 0) (v := ?v0_6) rfl (by kernel_rfl) (by kernel_rfl) (by kernel_rfl) (fun _ _ _ h => h) (Or.inl ⟨by rfl, ?hy0_6⟩) ?rest0_6
    case hy0_6 => intro w; (first | (go_simp; done) | (go_simp; with_reducible rfl))
    refine wpAny_take (i := 2) (v := ?v2_7) rfl (by kernel_rfl) (by kernel_rfl) (by kernel_rfl) (fun _ _ _ h => h) (Or.inl ⟨by rfl, ?hy2_7⟩) ?rest2_7
    case hy2_7 => intro w; (first | (go_simp; done) | (go_simp; with_reducible rfl))
    refine wpAny_take (i := 3) (v := ?v3_8) rfl (by kernel_rfl) (by kernel_rfl) (by kernel_rfl) (fun _ _ _ h => h) (Or.inl ⟨by rfl, ?hy3_8⟩) ?rest3_8
    case hy3_8 => intro w; (first | (go_simp; done) | (go_simp; with_reducible rfl))
    refine wpAny_ready (rs := [1, 4]) (by kernel_rfl) (by simp) ?_
    refine AllReady.cons rfl (fun K hK => ?_) (AllReady.cons rfl (fun K hK => ?_) AllReady.nil)
    ·go_simp
     refine hK _ _ ?_
     clear hK K
     refine wpAny_ready (rs := [4]) (by kernel_rfl) (by simp) ?_
     refine AllReady.cons rfl (fun K hK => ?_) AllReady.nil
     go_simp
     refine hK _ _ ?_
     clear hK K
     refine wpAny_ready (rs := [5]) (by kernel_rfl) (by simp) ?_
     refine AllReady.cons rfl (fun K hK => ?_) AllReady.nil
     go_simp
     with_reducible refine (rmethod_any ρ σ' cf cf _ HRd (lhid rfl)).mono ?_
     rintro e w5 ⟨vs, rfl, hm, hr, ho⟩
     rw [HROW.out] at hm hr
     obtain ⟨xa, xb, xd, rfl, hb1, hb2, hb3⟩ := hm
     obtain ⟨xA, xc, rfl⟩ := byts_shape hb1
     obtain ⟨yA, yc, rfl⟩ := slO_shape hb2
     obtain ⟨zA, zc, rfl⟩ := slO_shape hb3
     have HV1 := lhid hb1
     have HV2 := lhid hb2
     have HV3 := lhid hb3
     clear hb1 hb2 hb3
     have HX5 := lhid (Only.keep ho HXr.out HXM.out)
     have HZ5 := lhid (Only.keep ho HZr.out HZM.out)
     have HB5 := lhid ((Below.drewN' HBr.out 1).trans (ho.below HMw.out HBr.out.size))
     have HS5 := lhid (Rf.stay HRd.out ho)
     have HW5 := lhid (own_stay HWr.out HS5.out (by decide))
     have x5 := heap_cell (i := 6) HX5.out rfl
     have HI5 := lhid (strs_stay (by simp [tC, tM, tF]) HIr.out HS5.out)
     have HF5 := lhid (flds_stay (by simp [tC, tM, tF]) HFr.out HS5.out)
     have HE5 := lhid (HEr.out.imp (fun a c h => metE_keeps (Ts := tC) (by intro t ht; simp [tC, ht]) _ _ _ _ HS5.out h))
     dsimp only
     refine hK _ _ ?_
     clear hK K
     refine wpAny_ready (rs := [6]) (by kernel_rfl) (by simp) ?_
     refine AllReady.cons rfl (fun K hK => ?_) AllReady.nil
     go_simp
     refine hK _ _ ?_
     clear hK K
     have HRa := lhid (hr.alloc (.cells #[.int .i64 mm.flags, .string (tx mm.name), .string (tx mm.desc), .int .i64 mm.stack, .int .i64 mm.locals, .slice xA mm.code.length xc, .slice yA mm.rows.length yc, .slice zA mm.frames.length zc] 62 (0, 0)))
     have HXa : Hid ((w5.alloc (.cells #[.int .i64 mm.flags, .string (tx mm.name), .string (tx mm.desc), .int .i64 mm.stack, .int .i64 mm.locals, .slice xA mm.code.length xc, .slice yA mm.rows.length yc, .slice zA mm.frames.length zc] 62 (0, 0))).heap[X]? = some (.cells #[.int .i64 cf, .string (tx nm), .string (tx sp), .slice iA is.length ic, .slice pA pn pn, .slice fA fs.length fc, .slice A2 acc.length c2] 27 (0, 0))) := lhid ((Below.heap_alloc w5 (.cells #[.int .i64 mm.flags, .string (tx mm.name), .string (tx mm.desc), .int .i64 mm.stack, .int .i64 mm.locals, .slice xA mm.code.length xc, .slice yA mm.rows.length yc, .slice zA mm.frames.length zc] 62 (0, 0)) _ (heap_lt HX5.out)).trans HX5.out)
     have HZa : Hid ((w5.alloc (.cells #[.int .i64 mm.flags, .string (tx mm.name), .string (tx mm.desc), .int .i64 mm.stack, .int .i64 mm.locals, .slice xA mm.code.length xc, .slice yA mm.rows.length yc, .slice zA mm.frames.length zc] 62 (0, 0))).heap[w.heap.size]? = some zC) := lhid ((Below.heap_alloc w5 (.cells #[.int .i64 mm.flags, .string (tx mm.name), .string (tx mm.desc), .int .i64 mm.stack, .int .i64 mm.locals, .slice xA mm.code.length xc, .slice yA mm.rows.length yc, .slice zA mm.frames.length zc] 62 (0, 0)) _ (heap_lt HZ5.out)).trans HZ5.out)
     have HWa := lhid (HW5.out.alloc (.cells #[.int .i64 mm.flags, .string (tx mm.name), .string (tx mm.desc), .int .i64 mm.stack, .int .i64 mm.locals, .slice xA mm.code.length xc, .slice yA mm.rows.length yc, .slice zA mm.frames.length zc] 62 (0, 0)))
     have HBa := lhid (HB5.out.alloc HB5.out.size (.cells #[.int .i64 mm.flags, .string (tx mm.name), .string (tx mm.desc), .int .i64 mm.stack, .int .i64 mm.locals, .slice xA mm.code.length xc, .slice yA mm.rows.length yc, .slice zA mm.frames.length zc] 62 (0, 0)))
     have HSa : Hid (Stay tC w5 (w5.alloc (.cells #[.int .i64 mm.flags, .string (tx mm.name), .string (tx mm.desc), .int .i64 mm.stack, .int .i64 mm.locals, .slice xA mm.code.length xc, .slice yA mm.rows.length yc, .slice zA mm.frames.length zc] 62 (0, 0)))) := lhid ((Stay.refl tC w5).alloc (.cells #[.int .i64 mm.flags, .string (tx mm.name), .string (tx mm.desc), .int .i64 mm.stack, .int .i64 mm.locals, .slice xA mm.code.length xc, .slice yA mm.rows.length yc, .slice zA mm.frames.length zc] 62 (0, 0)))
     have HNa : Hid ((w5.alloc (.cells #[.int .i64 mm.flags, .string (tx mm.name), .string (tx mm.desc), .int .i64 mm.stack, .int .i64 mm.locals, .slice xA mm.code.length xc, .slice yA mm.rows.length yc, .slice zA mm.frames.length zc] 62 (0, 0))).heap[w5.heap.size]? = some (.cells #[.int .i64 mm.flags, .string (tx mm.name), .string (tx mm.desc), .int .i64 mm.stack, .int .i64 mm.locals, .slice xA mm.code.length xc, .slice yA mm.rows.length yc, .slice zA mm.frames.length zc] 62 (0, 0))) := lhid (heap_alloc_new w5 (.cells #[.int .i64 mm.flags, .string (tx mm.name), .string (tx mm.desc), .int .i64 mm.stack, .int .i64 mm.locals, .slice xA mm.code.length xc, .slice yA mm.rows.length yc, .slice zA mm.frames.length zc] 62 (0, 0)))
     have xa := heap_cell (i := 6) HXa.out rfl
     have H1C : Hid (∀ u ∈ ([.int .i64 mm.flags, .string (tx mm.name), .string (tx mm.desc), .int .i64 mm.stack, .int .i64 mm.locals, .slice xA mm.code.length xc, .slice yA mm.rows.length yc, .slice zA mm.frames.length zc] : List Value), u.oneCell' = true) := lhid (by intro u hu; simp at hu; rcases hu with rfl | rfl | rfl | rfl | rfl | rfl | rfl | rfl <;> simp [Value.oneCell'])
     refine wpAny_ready (rs := [7]) (by kernel_rfl) (by simp) ?_
     refine AllReady.cons rfl (fun K hK => ?_) AllReady.nil
     refine step_append_lies _ rfl (.tmp 132) (.tmp 137) 25 rfl w.heap.size 62 i0 (.agg #[.int .i64 0, .string ⟨#[]⟩, .string ⟨#[]⟩, .int .i64 0, .int .i64 0, .slice none 0 0, .slice none 0 0, .slice none 0 0]) 8 128 Tryz.underlying25 hi0 hz0 hz1 hz2 rfl (by decide) (.slice A2 acc.length c2) acc.length xs rfl HWa.out _ 1 _ [.int .i64 mm.flags, .string (tx mm.name), .string (tx mm.desc), .int .i64 mm.stack, .int .i64 mm.locals, .slice xA mm.code.length xc, .slice yA mm.rows.length yc, .slice zA mm.frames.length zc] rfl rfl (World.news_of_block HNa.out) H1C.out (by decide) h63 hby HBa.out.size _ rfl ?_
     intro g cap w6 hown hgrow hat hlt6
     have hge := own_lt HWa.out
     have hX6 : w6.heap[X]? = some (.cells #[.int .i64 cf, .string (tx nm), .string (tx sp), .slice iA is.length ic, .slice pA pn pn, .slice fA fs.length fc, .slice A2 acc.length c2] 27 (0, 0)) := (grown_stay (Ts := [27]) hgrow HWa.out (by decide)) X _ _ _ (by simp) HXa.out
     have q6 := heap_cell (i := 6) hX6 rfl
     have z6 := heap_thaw hX6 6
     refine hK _ _ ?_
     clear hK K
     refine wpAny_take (i := 8) (v := ?v8_9) rfl (by kernel_rfl) (by kernel_rfl) (by kernel_rfl) (fun _ _ _ h => h) (Or.inl ⟨by rfl, ?hy8_9⟩) ?rest8_9
     case hy8_9 => intro w; (first | (go_simp; done) | (go_simp; with_reducible rfl))
     refine wpAny_ready (rs := [9]) (by kernel_rfl) (by simp) ?_
     refine AllReady.cons rfl (fun K hK => ?_) AllReady.nil
     go_simp
     refine hK _ _ ?_
     clear hK K
     refine wpAny_done (by kernel_rfl) ?_ _
     have HXn : Hid ((w6.setCell ⟨X, 6, none⟩ (.slice (some ⟨g, 0, none⟩) (acc.length + 1) cap)).heap[X]? = some (.cells #[.int .i64 cf, .string (tx nm), .string (tx sp), .slice iA is.length ic, .slice pA pn pn, .slice fA fs.length fc, .slice (some ⟨g, 0, none⟩) (acc.length + 1) cap] 27 (0, 0))) := lhid (heap_set hX6 _)
     have HWn : Hid ((w6.setCell ⟨X, 6, none⟩ (.slice (some ⟨g, 0, none⟩) (acc.length + 1) cap)).ownsRow w.heap.size 62 8 (.slice (some ⟨g, 0, none⟩) (acc.length + 1) cap) (acc.length + 1) (xs ++ [.int .i64 mm.flags, .string (tx mm.name), .string (tx mm.desc), .int .i64 mm.stack, .int .i64 mm.locals, .slice xA mm.code.length xc, .slice yA mm.rows.length yc, .slice zA mm.frames.length zc])) := lhid (own_stay hown ((Stay.refl [62] w6).set (p := ⟨X, 6, none⟩) hX6 (by decide) _) (by simp))
     have HRn : Hid (Rf ρ τ1 (w6.setCell ⟨X, 6, none⟩ (.slice (some ⟨g, 0, none⟩) (acc.length + 1) cap))) := lhid (Rf.set (Rf.grown HRa.out hgrow (grown_stay hgrow HWa.out (by decide)) (fun k hk => by rw [HρB.out]; exact hge k hk)) (show Boxed _ _ 27 from ⟨_, _, hX6⟩) (by decide) HXB.out 6 _)
     have HBn : Hid (Below w.heap.size w (w6.setCell ⟨X, 6, none⟩ (.slice (some ⟨g, 0, none⟩) (acc.length + 1) cap))) := lhid ((HBa.out.trans (grown_below hgrow hge HBa.out.size)).setCell (p := ⟨X, 6, none⟩) HXw.out _)
     have HZn : Hid ((w6.setCell ⟨X, 6, none⟩ (.slice (some ⟨g, 0, none⟩) (acc.length + 1) cap)).heap[w.heap.size]? = some zC) := lhid ((Below.heap_setCell _ _ _ _ HZX.out).trans ((grown_stay (Ts := [27]) hgrow HWa.out (by decide)) w.heap.size _ _ _ (by simp) HZa.out))
     have HSn : Hid (Stay [57, 74, 9, 5, 88] w5 (w6.setCell ⟨X, 6, none⟩ (.slice (some ⟨g, 0, none⟩) (acc.length + 1) cap))) := lhid (((((Stay.refl _ w5).alloc (.cells #[.int .i64 mm.flags, .string (tx mm.name), .string (tx mm.desc), .int .i64 mm.stack, .int .i64 mm.locals, .slice xA mm.code.length xc, .slice yA mm.rows.length yc, .slice zA mm.frames.length zc] 62 (0, 0)))).trans (grown_stay hgrow HWa.out (by decide))).set (p := ⟨X, 6, none⟩) hX6 (by decide) _)
     have HEn : Hid (ListE (MetE (w6.setCell ⟨X, 6, none⟩ (.slice (some ⟨g, 0, none⟩) (acc.length + 1) cap))) (acc ++ [mm]) (xs ++ [.int .i64 mm.flags, .string (tx mm.name), .string (tx mm.desc), .int .i64 mm.stack, .int .i64 mm.locals, .slice xA mm.code.length xc, .slice yA mm.rows.length yc, .slice zA mm.frames.length zc])) := lhid (ListE.snoc (E := MetE (w6.setCell ⟨X, 6, none⟩ (.slice (some ⟨g, 0, none⟩) (acc.length + 1) cap))) ⟨_, _, _, rfl, byts_stay (by simp) HV1.out HSn.out, rws_stay (by simp) HV2.out HSn.out, frms_stay (by simp) (by simp) HV3.out HSn.out⟩ (HE5.out.imp (fun a c h => metE_keeps (by intro t ht; simp [tM, tF] at ht ⊢; rcases ht with rfl | rfl | rfl | rfl <;> simp) _ _ _ _ HSn.out h)))
     have HIn := lhid (strs_stay (by simp) HI5.out HSn.out)
     have HFn := lhid (flds_stay (by simp) HF5.out HSn.out)
     clear hown hgrow hat hge hlt6 hX6 q6 z6
     go_wp2
     go_roundw
     case rel =>
      have hlen : (acc ++ [mm]).length = acc.length + 1 := by simp
      refine ⟨acc ++ [mm], τ1, some ⟨g, 0, none⟩, cap, xs ++ [.int .i64 mm.flags, .string (tx mm.name), .string (tx mm.desc), .int .i64 mm.stack, .int .i64 mm.locals, .slice xA mm.code.length xc, .slice yA mm.rows.length yc, .slice zA mm.frames.length zc], by simp, by omega, lhid (by rw [hlen]; exact HXn.out), lhid (by rw [hlen]; exact HWn.out), HEn, HRn, HBn, HZn, HIn, HFn, lhid ?_⟩
      rw [← HM.out, show n3 - acc.length = n3 - (acc ++ [mm]).length + 1 by omega, manyR, if_neg (by rw [H0.out]; simp), HROW.out]
     case measure => simp [intOf]; omega
    ·go_simp
     refine hK _ _ ?_
     clear hK K
     refine wpAny_ready (rs := [1, 5]) (by kernel_rfl) (by simp) ?_
     refine AllReady.cons rfl (fun K hK => ?_) (AllReady.cons rfl (fun K hK => ?_) AllReady.nil)
     ·go_simp
      refine hK _ _ ?_
      clear hK K
      refine wpAny_ready (rs := [5]) (by kernel_rfl) (by simp) ?_
      refine AllReady.cons rfl (fun K hK => ?_) AllReady.nil
      go_simp
      with_reducible refine (rmethod_any ρ σ' cf cf _ HRd (lhid rfl)).mono ?_
      rintro e w5 ⟨vs, rfl, hm, hr, ho⟩
      rw [HROW.out] at hm hr
      obtain ⟨xa, xb, xd, rfl, hb1, hb2, hb3⟩ := hm
      obtain ⟨xA, xc, rfl⟩ := byts_shape hb1
      obtain ⟨yA, yc, rfl⟩ := slO_shape hb2
      obtain ⟨zA, zc, rfl⟩ := slO_shape hb3
      have HV1 := lhid hb1
      have HV2 := lhid hb2
      have HV3 := lhid hb3
      clear hb1 hb2 hb3
      have HX5 := lhid (Only.keep ho HXr.out HXM.out)
      have HZ5 := lhid (Only.keep ho HZr.out HZM.out)
      have HB5 := lhid ((Below.drewN' HBr.out 1).trans (ho.below HMw.out HBr.out.size))
      have HS5 := lhid (Rf.stay HRd.out ho)
      have HW5 := lhid (own_stay HWr.out HS5.out (by decide))
      have x5 := heap_cell (i := 6) HX5.out rfl
      have HI5 := lhid (strs_stay (by simp [tC, tM, tF]) HIr.out HS5.out)
      have HF5 := lhid (flds_stay (by simp [tC, tM, tF]) HFr.out HS5.out)
      have HE5 := lhid (HEr.out.imp (fun a c h => metE_keeps (Ts := tC) (by intro t ht; simp [tC, ht]) _ _ _ _ HS5.out h))
      dsimp only
      refine hK _ _ ?_
      clear hK K
      refine wpAny_ready (rs := [6]) (by kernel_rfl) (by simp) ?_
      refine AllReady.cons rfl (fun K hK => ?_) AllReady.nil
      go_simp
      refine hK _ _ ?_
      clear hK K
      have HRa := lhid (hr.alloc (.cells #[.int .i64 mm.flags, .string (tx mm.name), .string (tx mm.desc), .int .i64 mm.stack, .int .i64 mm.locals, .slice xA mm.code.length xc, .slice yA mm.rows.length yc, .slice zA mm.frames.length zc] 62 (0, 0)))
      have HXa : Hid ((w5.alloc (.cells #[.int .i64 mm.flags, .string (tx mm.name), .string (tx mm.desc), .int .i64 mm.stack, .int .i64 mm.locals, .slice xA mm.code.length xc, .slice yA mm.rows.length yc, .slice zA mm.frames.length zc] 62 (0, 0))).heap[X]? = some (.cells #[.int .i64 cf, .string (tx nm), .string (tx sp), .slice iA is.length ic, .slice pA pn pn, .slice fA fs.length fc, .slice A2 acc.length c2] 27 (0, 0))) := lhid ((Below.heap_alloc w5 (.cells #[.int .i64 mm.flags, .string (tx mm.name), .string (tx mm.desc), .int .i64 mm.stack, .int .i64 mm.locals, .slice xA mm.code.length xc, .slice yA mm.rows.length yc, .slice zA mm.frames.length zc] 62 (0, 0)) _ (heap_lt HX5.out)).trans HX5.out)
      have HZa : Hid ((w5.alloc (.cells #[.int .i64 mm.flags, .string (tx mm.name), .string (tx mm.desc), .int .i64 mm.stack, .int .i64 mm.locals, .slice xA mm.code.length xc, .slice yA mm.rows.length yc, .slice zA mm.frames.length zc] 62 (0, 0))).heap[w.heap.size]? = some zC) := lhid ((Below.heap_alloc w5 (.cells #[.int .i64 mm.flags, .string (tx mm.name), .string (tx mm.desc), .int .i64 mm.stack, .int .i64 mm.locals, .slice xA mm.code.length xc, .slice yA mm.rows.length yc, .slice zA mm.frames.length zc] 62 (0, 0)) _ (heap_lt HZ5.out)).trans HZ5.out)
      have HWa := lhid (HW5.out.alloc (.cells #[.int .i64 mm.flags, .string (tx mm.name), .string (tx mm.desc), .int .i64 mm.stack, .int .i64 mm.locals, .slice xA mm.code.length xc, .slice yA mm.rows.length yc, .slice zA mm.frames.length zc] 62 (0, 0)))
      have HBa := lhid (HB5.out.alloc HB5.out.size (.cells #[.int .i64 mm.flags, .string (tx mm.name), .string (tx mm.desc), .int .i64 mm.stack, .int .i64 mm.locals, .slice xA mm.code.length xc, .slice yA mm.rows.length yc, .slice zA mm.frames.length zc] 62 (0, 0)))
      have HSa : Hid (Stay tC w5 (w5.alloc (.cells #[.int .i64 mm.flags, .string (tx mm.name), .string (tx mm.desc), .int .i64 mm.stack, .int .i64 mm.locals, .slice xA mm.code.length xc, .slice yA mm.rows.length yc, .slice zA mm.frames.length zc] 62 (0, 0)))) := lhid ((Stay.refl tC w5).alloc (.cells #[.int .i64 mm.flags, .string (tx mm.name), .string (tx mm.desc), .int .i64 mm.stack, .int .i64 mm.locals, .slice xA mm.code.length xc, .slice yA mm.rows.length yc, .slice zA mm.frames.length zc] 62 (0, 0)))
      have HNa : Hid ((w5.alloc (.cells #[.int .i64 mm.flags, .string (tx mm.name), .string (tx mm.desc), .int .i64 mm.stack, .int .i64 mm.locals, .slice xA mm.code.length xc, .slice yA mm.rows.length yc, .slice zA mm.frames.length zc] 62 (0, 0))).heap[w5.heap.size]? = some (.cells #[.int .i64 mm.flags, .string (tx mm.name), .string (tx mm.desc), .int .i64 mm.stack, .int .i64 mm.locals, .slice xA mm.code.length xc, .slice yA mm.rows.length yc, .slice zA mm.frames.length zc] 62 (0, 0))) := lhid (heap_alloc_new w5 (.cells #[.int .i64 mm.flags, .string (tx mm.name), .string (tx mm.desc), .int .i64 mm.stack, .int .i64 mm.locals, .slice xA mm.code.length xc, .slice yA mm.rows.length yc, .slice zA mm.frames.length zc] 62 (0, 0)))
      have xa := heap_cell (i := 6) HXa.out rfl
      have H1C : Hid (∀ u ∈ ([.int .i64 mm.flags, .string (tx mm.name), .string (tx mm.desc), .int .i64 mm.stack, .int .i64 mm.locals, .slice xA mm.code.length xc, .slice yA mm.rows.length yc, .slice zA mm.frames.length zc] : List Value), u.oneCell' = true) := lhid (by intro u hu; simp at hu; rcases hu with rfl | rfl | rfl | rfl | rfl | rfl | rfl | rfl <;> simp [Value.oneCell'])
      refine wpAny_ready (rs := [7]) (by kernel_rfl) (by simp) ?_
      refine AllReady.cons rfl (fun K hK => ?_) AllReady.nil
      refine step_append_lies _ rfl (.tmp 132) (.tmp 137) 25 rfl w.heap.size 62 i0 (.agg #[.int .i64 0, .string ⟨#[]⟩, .string ⟨#[]⟩, .int .i64 0, .int .i64 0, .slice none 0 0, .slice none 0 0, .slice none 0 0]) 8 128 Tryz.underlying25 hi0 hz0 hz1 hz2 rfl (by decide) (.slice A2 acc.length c2) acc.length xs rfl HWa.out _ 1 _ [.int .i64 mm.flags, .string (tx mm.name), .string (tx mm.desc), .int .i64 mm.stack, .int .i64 mm.locals, .slice xA mm.code.length xc, .slice yA mm.rows.length yc, .slice zA mm.frames.length zc] rfl rfl (World.news_of_block HNa.out) H1C.out (by decide) h63 hby HBa.out.size _ rfl ?_
      intro g cap w6 hown hgrow hat hlt6
      have hge := own_lt HWa.out
      have hX6 : w6.heap[X]? = some (.cells #[.int .i64 cf, .string (tx nm), .string (tx sp), .slice iA is.length ic, .slice pA pn pn, .slice fA fs.length fc, .slice A2 acc.length c2] 27 (0, 0)) := (grown_stay (Ts := [27]) hgrow HWa.out (by decide)) X _ _ _ (by simp) HXa.out
      have q6 := heap_cell (i := 6) hX6 rfl
      have z6 := heap_thaw hX6 6
      refine hK _ _ ?_
      clear hK K
      refine wpAny_take (i := 8) (v := ?v8_10) rfl (by kernel_rfl) (by kernel_rfl) (by kernel_rfl) (fun _ _ _ h => h) (Or.inl ⟨by rfl, ?hy8_10⟩) ?rest8_10
      case hy8_10 => intro w; (first | (go_simp; done) | (go_simp; with_reducible rfl))
      refine wpAny_ready (rs := [9]) (by kernel_rfl) (by simp) ?_
      refine AllReady.cons rfl (fun K hK => ?_) AllReady.nil
      go_simp
      refine hK _ _ ?_
      clear hK K
      refine wpAny_done (by kernel_rfl) ?_ _
      have HXn : Hid ((w6.setCell ⟨X, 6, none⟩ (.slice (some ⟨g, 0, none⟩) (acc.length + 1) cap)).heap[X]? = some (.cells #[.int .i64 cf, .string (tx nm), .string (tx sp), .slice iA is.length ic, .slice pA pn pn, .slice fA fs.length fc, .slice (some ⟨g, 0, none⟩) (acc.length + 1) cap] 27 (0, 0))) := lhid (heap_set hX6 _)
      have HWn : Hid ((w6.setCell ⟨X, 6, none⟩ (.slice (some ⟨g, 0, none⟩) (acc.length + 1) cap)).ownsRow w.heap.size 62 8 (.slice (some ⟨g, 0, none⟩) (acc.length + 1) cap) (acc.length + 1) (xs ++ [.int .i64 mm.flags, .string (tx mm.name), .string (tx mm.desc), .int .i64 mm.stack, .int .i64 mm.locals, .slice xA mm.code.length xc, .slice yA mm.rows.length yc, .slice zA mm.frames.length zc])) := lhid (own_stay hown ((Stay.refl [62] w6).set (p := ⟨X, 6, none⟩) hX6 (by decide) _) (by simp))
      have HRn : Hid (Rf ρ τ1 (w6.setCell ⟨X, 6, none⟩ (.slice (some ⟨g, 0, none⟩) (acc.length + 1) cap))) := lhid (Rf.set (Rf.grown HRa.out hgrow (grown_stay hgrow HWa.out (by decide)) (fun k hk => by rw [HρB.out]; exact hge k hk)) (show Boxed _ _ 27 from ⟨_, _, hX6⟩) (by decide) HXB.out 6 _)
      have HBn : Hid (Below w.heap.size w (w6.setCell ⟨X, 6, none⟩ (.slice (some ⟨g, 0, none⟩) (acc.length + 1) cap))) := lhid ((HBa.out.trans (grown_below hgrow hge HBa.out.size)).setCell (p := ⟨X, 6, none⟩) HXw.out _)
      have HZn : Hid ((w6.setCell ⟨X, 6, none⟩ (.slice (some ⟨g, 0, none⟩) (acc.length + 1) cap)).heap[w.heap.size]? = some zC) := lhid ((Below.heap_setCell _ _ _ _ HZX.out).trans ((grown_stay (Ts := [27]) hgrow HWa.out (by decide)) w.heap.size _ _ _ (by simp) HZa.out))
      have HSn : Hid (Stay [57, 74, 9, 5, 88] w5 (w6.setCell ⟨X, 6, none⟩ (.slice (some ⟨g, 0, none⟩) (acc.length + 1) cap))) := lhid (((((Stay.refl _ w5).alloc (.cells #[.int .i64 mm.flags, .string (tx mm.name), .string (tx mm.desc), .int .i64 mm.stack, .int .i64 mm.locals, .slice xA mm.code.length xc, .slice yA mm.rows.length yc, .slice zA mm.frames.length zc] 62 (0, 0)))).trans (grown_stay hgrow HWa.out (by decide))).set (p := ⟨X, 6, none⟩) hX6 (by decide) _)
      have HEn : Hid (ListE (MetE (w6.setCell ⟨X, 6, none⟩ (.slice (some ⟨g, 0, none⟩) (acc.length + 1) cap))) (acc ++ [mm]) (xs ++ [.int .i64 mm.flags, .string (tx mm.name), .string (tx mm.desc), .int .i64 mm.stack, .int .i64 mm.locals, .slice xA mm.code.length xc, .slice yA mm.rows.length yc, .slice zA mm.frames.length zc])) := lhid (ListE.snoc (E := MetE (w6.setCell ⟨X, 6, none⟩ (.slice (some ⟨g, 0, none⟩) (acc.length + 1) cap))) ⟨_, _, _, rfl, byts_stay (by simp) HV1.out HSn.out, rws_stay (by simp) HV2.out HSn.out, frms_stay (by simp) (by simp) HV3.out HSn.out⟩ (HE5.out.imp (fun a c h => metE_keeps (by intro t ht; simp [tM, tF] at ht ⊢; rcases ht with rfl | rfl | rfl | rfl <;> simp) _ _ _ _ HSn.out h)))
      have HIn := lhid (strs_stay (by simp) HI5.out HSn.out)
      have HFn := lhid (flds_stay (by simp) HF5.out HSn.out)
      clear hown hgrow hat hge hlt6 hX6 q6 z6
      go_wp2
      go_roundw
      case rel =>
       have hlen : (acc ++ [mm]).length = acc.length + 1 := by simp
       refine ⟨acc ++ [mm], τ1, some ⟨g, 0, none⟩, cap, xs ++ [.int .i64 mm.flags, .string (tx mm.name), .string (tx mm.desc), .int .i64 mm.stack, .int .i64 mm.locals, .slice xA mm.code.length xc, .slice yA mm.rows.length yc, .slice zA mm.frames.length zc], by simp, by omega, lhid (by rw [hlen]; exact HXn.out), lhid (by rw [hlen]; exact HWn.out), HEn, HRn, HBn, HZn, HIn, HFn, lhid ?_⟩
       rw [← HM.out, show n3 - acc.length = n3 - (acc ++ [mm]).length + 1 by omega, manyR, if_neg (by rw [H0.out]; simp), HROW.out]
      case measure => simp [intOf]; omega
     ·go_simp
      with_reducible refine (rmethod_any ρ σ' cf cf _ HRd (lhid rfl)).mono ?_
      rintro e w5 ⟨vs, rfl, hm, hr, ho⟩
      rw [HROW.out] at hm hr
      obtain ⟨xa, xb, xd, rfl, hb1, hb2, hb3⟩ := hm
      obtain ⟨xA, xc, rfl⟩ := byts_shape hb1
      obtain ⟨yA, yc, rfl⟩ := slO_shape hb2
      obtain ⟨zA, zc, rfl⟩ := slO_shape hb3
      have HV1 := lhid hb1
      have HV2 := lhid hb2
      have HV3 := lhid hb3
      clear hb1 hb2 hb3
      have HX5 := lhid (Only.keep ho HXr.out HXM.out)
      have HZ5 := lhid (Only.keep ho HZr.out HZM.out)
      have HB5 := lhid ((Below.drewN' HBr.out 1).trans (ho.below HMw.out HBr.out.size))
      have HS5 := lhid (Rf.stay HRd.out ho)
      have HW5 := lhid (own_stay HWr.out HS5.out (by decide))
      have x5 := heap_cell (i := 6) HX5.out rfl
      have HI5 := lhid (strs_stay (by simp [tC, tM, tF]) HIr.out HS5.out)
      have HF5 := lhid (flds_stay (by simp [tC, tM, tF]) HFr.out HS5.out)
      have HE5 := lhid (HEr.out.imp (fun a c h => metE_keeps (Ts := tC) (by intro t ht; simp [tC, ht]) _ _ _ _ HS5.out h))
      dsimp only
      refine hK _ _ ?_
      clear hK K
      refine wpAny_ready (rs := [1, 6]) (by kernel_rfl) (by simp) ?_
      refine AllReady.cons rfl (fun K hK => ?_) (AllReady.cons rfl (fun K hK => ?_) AllReady.nil)
      ·go_simp
       refine hK _ _ ?_
       clear hK K
       refine wpAny_ready (rs := [6]) (by kernel_rfl) (by simp) ?_
       refine AllReady.cons rfl (fun K hK => ?_) AllReady.nil
       go_simp
       refine hK _ _ ?_
       clear hK K
       have HRa := lhid (hr.alloc (.cells #[.int .i64 mm.flags, .string (tx mm.name), .string (tx mm.desc), .int .i64 mm.stack, .int .i64 mm.locals, .slice xA mm.code.length xc, .slice yA mm.rows.length yc, .slice zA mm.frames.length zc] 62 (0, 0)))
       have HXa : Hid ((w5.alloc (.cells #[.int .i64 mm.flags, .string (tx mm.name), .string (tx mm.desc), .int .i64 mm.stack, .int .i64 mm.locals, .slice xA mm.code.length xc, .slice yA mm.rows.length yc, .slice zA mm.frames.length zc] 62 (0, 0))).heap[X]? = some (.cells #[.int .i64 cf, .string (tx nm), .string (tx sp), .slice iA is.length ic, .slice pA pn pn, .slice fA fs.length fc, .slice A2 acc.length c2] 27 (0, 0))) := lhid ((Below.heap_alloc w5 (.cells #[.int .i64 mm.flags, .string (tx mm.name), .string (tx mm.desc), .int .i64 mm.stack, .int .i64 mm.locals, .slice xA mm.code.length xc, .slice yA mm.rows.length yc, .slice zA mm.frames.length zc] 62 (0, 0)) _ (heap_lt HX5.out)).trans HX5.out)
       have HZa : Hid ((w5.alloc (.cells #[.int .i64 mm.flags, .string (tx mm.name), .string (tx mm.desc), .int .i64 mm.stack, .int .i64 mm.locals, .slice xA mm.code.length xc, .slice yA mm.rows.length yc, .slice zA mm.frames.length zc] 62 (0, 0))).heap[w.heap.size]? = some zC) := lhid ((Below.heap_alloc w5 (.cells #[.int .i64 mm.flags, .string (tx mm.name), .string (tx mm.desc), .int .i64 mm.stack, .int .i64 mm.locals, .slice xA mm.code.length xc, .slice yA mm.rows.length yc, .slice zA mm.frames.length zc] 62 (0, 0)) _ (heap_lt HZ5.out)).trans HZ5.out)
       have HWa := lhid (HW5.out.alloc (.cells #[.int .i64 mm.flags, .string (tx mm.name), .string (tx mm.desc), .int .i64 mm.stack, .int .i64 mm.locals, .slice xA mm.code.length xc, .slice yA mm.rows.length yc, .slice zA mm.frames.length zc] 62 (0, 0)))
       have HBa := lhid (HB5.out.alloc HB5.out.size (.cells #[.int .i64 mm.flags, .string (tx mm.name), .string (tx mm.desc), .int .i64 mm.stack, .int .i64 mm.locals, .slice xA mm.code.length xc, .slice yA mm.rows.length yc, .slice zA mm.frames.length zc] 62 (0, 0)))
       have HSa : Hid (Stay tC w5 (w5.alloc (.cells #[.int .i64 mm.flags, .string (tx mm.name), .string (tx mm.desc), .int .i64 mm.stack, .int .i64 mm.locals, .slice xA mm.code.length xc, .slice yA mm.rows.length yc, .slice zA mm.frames.length zc] 62 (0, 0)))) := lhid ((Stay.refl tC w5).alloc (.cells #[.int .i64 mm.flags, .string (tx mm.name), .string (tx mm.desc), .int .i64 mm.stack, .int .i64 mm.locals, .slice xA mm.code.length xc, .slice yA mm.rows.length yc, .slice zA mm.frames.length zc] 62 (0, 0)))
       have HNa : Hid ((w5.alloc (.cells #[.int .i64 mm.flags, .string (tx mm.name), .string (tx mm.desc), .int .i64 mm.stack, .int .i64 mm.locals, .slice xA mm.code.length xc, .slice yA mm.rows.length yc, .slice zA mm.frames.length zc] 62 (0, 0))).heap[w5.heap.size]? = some (.cells #[.int .i64 mm.flags, .string (tx mm.name), .string (tx mm.desc), .int .i64 mm.stack, .int .i64 mm.locals, .slice xA mm.code.length xc, .slice yA mm.rows.length yc, .slice zA mm.frames.length zc] 62 (0, 0))) := lhid (heap_alloc_new w5 (.cells #[.int .i64 mm.flags, .string (tx mm.name), .string (tx mm.desc), .int .i64 mm.stack, .int .i64 mm.locals, .slice xA mm.code.length xc, .slice yA mm.rows.length yc, .slice zA mm.frames.length zc] 62 (0, 0)))
       have xa := heap_cell (i := 6) HXa.out rfl
       have H1C : Hid (∀ u ∈ ([.int .i64 mm.flags, .string (tx mm.name), .string (tx mm.desc), .int .i64 mm.stack, .int .i64 mm.locals, .slice xA mm.code.length xc, .slice yA mm.rows.length yc, .slice zA mm.frames.length zc] : List Value), u.oneCell' = true) := lhid (by intro u hu; simp at hu; rcases hu with rfl | rfl | rfl | rfl | rfl | rfl | rfl | rfl <;> simp [Value.oneCell'])
       refine wpAny_ready (rs := [7]) (by kernel_rfl) (by simp) ?_
       refine AllReady.cons rfl (fun K hK => ?_) AllReady.nil
       refine step_append_lies _ rfl (.tmp 132) (.tmp 137) 25 rfl w.heap.size 62 i0 (.agg #[.int .i64 0, .string ⟨#[]⟩, .string ⟨#[]⟩, .int .i64 0, .int .i64 0, .slice none 0 0, .slice none 0 0, .slice none 0 0]) 8 128 Tryz.underlying25 hi0 hz0 hz1 hz2 rfl (by decide) (.slice A2 acc.length c2) acc.length xs rfl HWa.out _ 1 _ [.int .i64 mm.flags, .string (tx mm.name), .string (tx mm.desc), .int .i64 mm.stack, .int .i64 mm.locals, .slice xA mm.code.length xc, .slice yA mm.rows.length yc, .slice zA mm.frames.length zc] rfl rfl (World.news_of_block HNa.out) H1C.out (by decide) h63 hby HBa.out.size _ rfl ?_
       intro g cap w6 hown hgrow hat hlt6
       have hge := own_lt HWa.out
       have hX6 : w6.heap[X]? = some (.cells #[.int .i64 cf, .string (tx nm), .string (tx sp), .slice iA is.length ic, .slice pA pn pn, .slice fA fs.length fc, .slice A2 acc.length c2] 27 (0, 0)) := (grown_stay (Ts := [27]) hgrow HWa.out (by decide)) X _ _ _ (by simp) HXa.out
       have q6 := heap_cell (i := 6) hX6 rfl
       have z6 := heap_thaw hX6 6
       refine hK _ _ ?_
       clear hK K
       refine wpAny_take (i := 8) (v := ?v8_11) rfl (by kernel_rfl) (by kernel_rfl) (by kernel_rfl) (fun _ _ _ h => h) (Or.inl ⟨by rfl, ?hy8_11⟩) ?rest8_11
       case hy8_11 => intro w; (first | (go_simp; done) | (go_simp; with_reducible rfl))
       refine wpAny_ready (rs := [9]) (by kernel_rfl) (by simp) ?_
       refine AllReady.cons rfl (fun K hK => ?_) AllReady.nil
       go_simp
       refine hK _ _ ?_
       clear hK K
       refine wpAny_done (by kernel_rfl) ?_ _
       have HXn : Hid ((w6.setCell ⟨X, 6, none⟩ (.slice (some ⟨g, 0, none⟩) (acc.length + 1) cap)).heap[X]? = some (.cells #[.int .i64 cf, .string (tx nm), .string (tx sp), .slice iA is.length ic, .slice pA pn pn, .slice fA fs.length fc, .slice (some ⟨g, 0, none⟩) (acc.length + 1) cap] 27 (0, 0))) := lhid (heap_set hX6 _)
       have HWn : Hid ((w6.setCell ⟨X, 6, none⟩ (.slice (some ⟨g, 0, none⟩) (acc.length + 1) cap)).ownsRow w.heap.size 62 8 (.slice (some ⟨g, 0, none⟩) (acc.length + 1) cap) (acc.length + 1) (xs ++ [.int .i64 mm.flags, .string (tx mm.name), .string (tx mm.desc), .int .i64 mm.stack, .int .i64 mm.locals, .slice xA mm.code.length xc, .slice yA mm.rows.length yc, .slice zA mm.frames.length zc])) := lhid (own_stay hown ((Stay.refl [62] w6).set (p := ⟨X, 6, none⟩) hX6 (by decide) _) (by simp))
       have HRn : Hid (Rf ρ τ1 (w6.setCell ⟨X, 6, none⟩ (.slice (some ⟨g, 0, none⟩) (acc.length + 1) cap))) := lhid (Rf.set (Rf.grown HRa.out hgrow (grown_stay hgrow HWa.out (by decide)) (fun k hk => by rw [HρB.out]; exact hge k hk)) (show Boxed _ _ 27 from ⟨_, _, hX6⟩) (by decide) HXB.out 6 _)
       have HBn : Hid (Below w.heap.size w (w6.setCell ⟨X, 6, none⟩ (.slice (some ⟨g, 0, none⟩) (acc.length + 1) cap))) := lhid ((HBa.out.trans (grown_below hgrow hge HBa.out.size)).setCell (p := ⟨X, 6, none⟩) HXw.out _)
       have HZn : Hid ((w6.setCell ⟨X, 6, none⟩ (.slice (some ⟨g, 0, none⟩) (acc.length + 1) cap)).heap[w.heap.size]? = some zC) := lhid ((Below.heap_setCell _ _ _ _ HZX.out).trans ((grown_stay (Ts := [27]) hgrow HWa.out (by decide)) w.heap.size _ _ _ (by simp) HZa.out))
       have HSn : Hid (Stay [57, 74, 9, 5, 88] w5 (w6.setCell ⟨X, 6, none⟩ (.slice (some ⟨g, 0, none⟩) (acc.length + 1) cap))) := lhid (((((Stay.refl _ w5).alloc (.cells #[.int .i64 mm.flags, .string (tx mm.name), .string (tx mm.desc), .int .i64 mm.stack, .int .i64 mm.locals, .slice xA mm.code.length xc, .slice yA mm.rows.length yc, .slice zA mm.frames.length zc] 62 (0, 0)))).trans (grown_stay hgrow HWa.out (by decide))).set (p := ⟨X, 6, none⟩) hX6 (by decide) _)
       have HEn : Hid (ListE (MetE (w6.setCell ⟨X, 6, none⟩ (.slice (some ⟨g, 0, none⟩) (acc.length + 1) cap))) (acc ++ [mm]) (xs ++ [.int .i64 mm.flags, .string (tx mm.name), .string (tx mm.desc), .int .i64 mm.stack, .int .i64 mm.locals, .slice xA mm.code.length xc, .slice yA mm.rows.length yc, .slice zA mm.frames.length zc])) := lhid (ListE.snoc (E := MetE (w6.setCell ⟨X, 6, none⟩ (.slice (some ⟨g, 0, none⟩) (acc.length + 1) cap))) ⟨_, _, _, rfl, byts_stay (by simp) HV1.out HSn.out, rws_stay (by simp) HV2.out HSn.out, frms_stay (by simp) (by simp) HV3.out HSn.out⟩ (HE5.out.imp (fun a c h => metE_keeps (by intro t ht; simp [tM, tF] at ht ⊢; rcases ht with rfl | rfl | rfl | rfl <;> simp) _ _ _ _ HSn.out h)))
       have HIn := lhid (strs_stay (by simp) HI5.out HSn.out)
       have HFn := lhid (flds_stay (by simp) HF5.out HSn.out)
       clear hown hgrow hat hge hlt6 hX6 q6 z6
       go_wp2
       go_roundw
       case rel =>
        have hlen : (acc ++ [mm]).length = acc.length + 1 := by simp
        refine ⟨acc ++ [mm], τ1, some ⟨g, 0, none⟩, cap, xs ++ [.int .i64 mm.flags, .string (tx mm.name), .string (tx mm.desc), .int .i64 mm.stack, .int .i64 mm.locals, .slice xA mm.code.length xc, .slice yA mm.rows.length yc, .slice zA mm.frames.length zc], by simp, by omega, lhid (by rw [hlen]; exact HXn.out), lhid (by rw [hlen]; exact HWn.out), HEn, HRn, HBn, HZn, HIn, HFn, lhid ?_⟩
        rw [← HM.out, show n3 - acc.length = n3 - (acc ++ [mm]).length + 1 by omega, manyR, if_neg (by rw [H0.out]; simp), HROW.out]
       case measure => simp [intOf]; omega
      ·go_simp
       refine hK _ _ ?_
       clear hK K
       have HRa := lhid (hr.alloc (.cells #[.int .i64 mm.flags, .string (tx mm.name), .string (tx mm.desc), .int .i64 mm.stack, .int .i64 mm.locals, .slice xA mm.code.length xc, .slice yA mm.rows.length yc, .slice zA mm.frames.length zc] 62 (0, 0)))
       have HXa : Hid ((w5.alloc (.cells #[.int .i64 mm.flags, .string (tx mm.name), .string (tx mm.desc), .int .i64 mm.stack, .int .i64 mm.locals, .slice xA mm.code.length xc, .slice yA mm.rows.length yc, .slice zA mm.frames.length zc] 62 (0, 0))).heap[X]? = some (.cells #[.int .i64 cf, .string (tx nm), .string (tx sp), .slice iA is.length ic, .slice pA pn pn, .slice fA fs.length fc, .slice A2 acc.length c2] 27 (0, 0))) := lhid ((Below.heap_alloc w5 (.cells #[.int .i64 mm.flags, .string (tx mm.name), .string (tx mm.desc), .int .i64 mm.stack, .int .i64 mm.locals, .slice xA mm.code.length xc, .slice yA mm.rows.length yc, .slice zA mm.frames.length zc] 62 (0, 0)) _ (heap_lt HX5.out)).trans HX5.out)
       have HZa : Hid ((w5.alloc (.cells #[.int .i64 mm.flags, .string (tx mm.name), .string (tx mm.desc), .int .i64 mm.stack, .int .i64 mm.locals, .slice xA mm.code.length xc, .slice yA mm.rows.length yc, .slice zA mm.frames.length zc] 62 (0, 0))).heap[w.heap.size]? = some zC) := lhid ((Below.heap_alloc w5 (.cells #[.int .i64 mm.flags, .string (tx mm.name), .string (tx mm.desc), .int .i64 mm.stack, .int .i64 mm.locals, .slice xA mm.code.length xc, .slice yA mm.rows.length yc, .slice zA mm.frames.length zc] 62 (0, 0)) _ (heap_lt HZ5.out)).trans HZ5.out)
       have HWa := lhid (HW5.out.alloc (.cells #[.int .i64 mm.flags, .string (tx mm.name), .string (tx mm.desc), .int .i64 mm.stack, .int .i64 mm.locals, .slice xA mm.code.length xc, .slice yA mm.rows.length yc, .slice zA mm.frames.length zc] 62 (0, 0)))
       have HBa := lhid (HB5.out.alloc HB5.out.size (.cells #[.int .i64 mm.flags, .string (tx mm.name), .string (tx mm.desc), .int .i64 mm.stack, .int .i64 mm.locals, .slice xA mm.code.length xc, .slice yA mm.rows.length yc, .slice zA mm.frames.length zc] 62 (0, 0)))
       have HSa : Hid (Stay tC w5 (w5.alloc (.cells #[.int .i64 mm.flags, .string (tx mm.name), .string (tx mm.desc), .int .i64 mm.stack, .int .i64 mm.locals, .slice xA mm.code.length xc, .slice yA mm.rows.length yc, .slice zA mm.frames.length zc] 62 (0, 0)))) := lhid ((Stay.refl tC w5).alloc (.cells #[.int .i64 mm.flags, .string (tx mm.name), .string (tx mm.desc), .int .i64 mm.stack, .int .i64 mm.locals, .slice xA mm.code.length xc, .slice yA mm.rows.length yc, .slice zA mm.frames.length zc] 62 (0, 0)))
       have HNa : Hid ((w5.alloc (.cells #[.int .i64 mm.flags, .string (tx mm.name), .string (tx mm.desc), .int .i64 mm.stack, .int .i64 mm.locals, .slice xA mm.code.length xc, .slice yA mm.rows.length yc, .slice zA mm.frames.length zc] 62 (0, 0))).heap[w5.heap.size]? = some (.cells #[.int .i64 mm.flags, .string (tx mm.name), .string (tx mm.desc), .int .i64 mm.stack, .int .i64 mm.locals, .slice xA mm.code.length xc, .slice yA mm.rows.length yc, .slice zA mm.frames.length zc] 62 (0, 0))) := lhid (heap_alloc_new w5 (.cells #[.int .i64 mm.flags, .string (tx mm.name), .string (tx mm.desc), .int .i64 mm.stack, .int .i64 mm.locals, .slice xA mm.code.length xc, .slice yA mm.rows.length yc, .slice zA mm.frames.length zc] 62 (0, 0)))
       have xa := heap_cell (i := 6) HXa.out rfl
       have H1C : Hid (∀ u ∈ ([.int .i64 mm.flags, .string (tx mm.name), .string (tx mm.desc), .int .i64 mm.stack, .int .i64 mm.locals, .slice xA mm.code.length xc, .slice yA mm.rows.length yc, .slice zA mm.frames.length zc] : List Value), u.oneCell' = true) := lhid (by intro u hu; simp at hu; rcases hu with rfl | rfl | rfl | rfl | rfl | rfl | rfl | rfl <;> simp [Value.oneCell'])
       refine wpAny_ready (rs := [1]) (by kernel_rfl) (by simp) ?_
       refine AllReady.cons rfl (fun K hK => ?_) AllReady.nil
       go_simp
       refine hK _ _ ?_
       clear hK K
       refine wpAny_ready (rs := [7]) (by kernel_rfl) (by simp) ?_
       refine AllReady.cons rfl (fun K hK => ?_) AllReady.nil
       refine step_append_lies _ rfl (.tmp 132) (.tmp 137) 25 rfl w.heap.size 62 i0 (.agg #[.int .i64 0, .string ⟨#[]⟩, .string ⟨#[]⟩, .int .i64 0, .int .i64 0, .slice none 0 0, .slice none 0 0, .slice none 0 0]) 8 128 Tryz.underlying25 hi0 hz0 hz1 hz2 rfl (by decide) (.slice A2 acc.length c2) acc.length xs rfl HWa.out _ 1 _ [.int .i64 mm.flags, .string (tx mm.name), .string (tx mm.desc), .int .i64 mm.stack, .int .i64 mm.locals, .slice xA mm.code.length xc, .slice yA mm.rows.length yc, .slice zA mm.frames.length zc] rfl rfl (World.news_of_block HNa.out) H1C.out (by decide) h63 hby HBa.out.size _ rfl ?_
       intro g cap w6 hown hgrow hat hlt6
       have hge := own_lt HWa.out
       have hX6 : w6.heap[X]? = some (.cells #[.int .i64 cf, .string (tx nm), .string (tx sp), .slice iA is.length ic, .slice pA pn pn, .slice fA fs.length fc, .slice A2 acc.length c2] 27 (0, 0)) := (grown_stay (Ts := [27]) hgrow HWa.out (by decide)) X _ _ _ (by simp) HXa.out
       have q6 := heap_cell (i := 6) hX6 rfl
       have z6 := heap_thaw hX6 6
       refine hK _ _ ?_
       clear hK K
       refine wpAny_take (i := 8) (v := ?v8_12) rfl (by kernel_rfl) (by kernel_rfl) (by kernel_rfl) (fun _ _ _ h => h) (Or.inl ⟨by rfl, ?hy8_12⟩) ?rest8_12
       case hy8_12 => intro w; (first | (go_simp; done) | (go_simp; with_reducible rfl))
       refine wpAny_ready (rs := [9]) (by kernel_rfl) (by simp) ?_
       refine AllReady.cons rfl (fun K hK => ?_) AllReady.nil
       go_simp
       refine hK _ _ ?_
       clear hK K
       refine wpAny_done (by kernel_rfl) ?_ _
       have HXn : Hid ((w6.setCell ⟨X, 6, none⟩ (.slice (some ⟨g, 0, none⟩) (acc.length + 1) cap)).heap[X]? = some (.cells #[.int .i64 cf, .string (tx nm), .string (tx sp), .slice iA is.length ic, .slice pA pn pn, .slice fA fs.length fc, .slice (some ⟨g, 0, none⟩) (acc.length + 1) cap] 27 (0, 0))) := lhid (heap_set hX6 _)
       have HWn : Hid ((w6.setCell ⟨X, 6, none⟩ (.slice (some ⟨g, 0, none⟩) (acc.length + 1) cap)).ownsRow w.heap.size 62 8 (.slice (some ⟨g, 0, none⟩) (acc.length + 1) cap) (acc.length + 1) (xs ++ [.int .i64 mm.flags, .string (tx mm.name), .string (tx mm.desc), .int .i64 mm.stack, .int .i64 mm.locals, .slice xA mm.code.length xc, .slice yA mm.rows.length yc, .slice zA mm.frames.length zc])) := lhid (own_stay hown ((Stay.refl [62] w6).set (p := ⟨X, 6, none⟩) hX6 (by decide) _) (by simp))
       have HRn : Hid (Rf ρ τ1 (w6.setCell ⟨X, 6, none⟩ (.slice (some ⟨g, 0, none⟩) (acc.length + 1) cap))) := lhid (Rf.set (Rf.grown HRa.out hgrow (grown_stay hgrow HWa.out (by decide)) (fun k hk => by rw [HρB.out]; exact hge k hk)) (show Boxed _ _ 27 from ⟨_, _, hX6⟩) (by decide) HXB.out 6 _)
       have HBn : Hid (Below w.heap.size w (w6.setCell ⟨X, 6, none⟩ (.slice (some ⟨g, 0, none⟩) (acc.length + 1) cap))) := lhid ((HBa.out.trans (grown_below hgrow hge HBa.out.size)).setCell (p := ⟨X, 6, none⟩) HXw.out _)
       have HZn : Hid ((w6.setCell ⟨X, 6, none⟩ (.slice (some ⟨g, 0, none⟩) (acc.length + 1) cap)).heap[w.heap.size]? = some zC) := lhid ((Below.heap_setCell _ _ _ _ HZX.out).trans ((grown_stay (Ts := [27]) hgrow HWa.out (by decide)) w.heap.size _ _ _ (by simp) HZa.out))
       have HSn : Hid (Stay [57, 74, 9, 5, 88] w5 (w6.setCell ⟨X, 6, none⟩ (.slice (some ⟨g, 0, none⟩) (acc.length + 1) cap))) := lhid (((((Stay.refl _ w5).alloc (.cells #[.int .i64 mm.flags, .string (tx mm.name), .string (tx mm.desc), .int .i64 mm.stack, .int .i64 mm.locals, .slice xA mm.code.length xc, .slice yA mm.rows.length yc, .slice zA mm.frames.length zc] 62 (0, 0)))).trans (grown_stay hgrow HWa.out (by decide))).set (p := ⟨X, 6, none⟩) hX6 (by decide) _)
       have HEn : Hid (ListE (MetE (w6.setCell ⟨X, 6, none⟩ (.slice (some ⟨g, 0, none⟩) (acc.length + 1) cap))) (acc ++ [mm]) (xs ++ [.int .i64 mm.flags, .string (tx mm.name), .string (tx mm.desc), .int .i64 mm.stack, .int .i64 mm.locals, .slice xA mm.code.length xc, .slice yA mm.rows.length yc, .slice zA mm.frames.length zc])) := lhid (ListE.snoc (E := MetE (w6.setCell ⟨X, 6, none⟩ (.slice (some ⟨g, 0, none⟩) (acc.length + 1) cap))) ⟨_, _, _, rfl, byts_stay (by simp) HV1.out HSn.out, rws_stay (by simp) HV2.out HSn.out, frms_stay (by simp) (by simp) HV3.out HSn.out⟩ (HE5.out.imp (fun a c h => metE_keeps (by intro t ht; simp [tM, tF] at ht ⊢; rcases ht with rfl | rfl | rfl | rfl <;> simp) _ _ _ _ HSn.out h)))
       have HIn := lhid (strs_stay (by simp) HI5.out HSn.out)
       have HFn := lhid (flds_stay (by simp) HF5.out HSn.out)
       clear hown hgrow hat hge hlt6 hX6 q6 z6
       go_wp2
       go_roundw
       case rel =>
        have hlen : (acc ++ [mm]).length = acc.length + 1 := by simp
        refine ⟨acc ++ [mm], τ1, some ⟨g, 0, none⟩, cap, xs ++ [.int .i64 mm.flags, .string (tx mm.name), .string (tx mm.desc), .int .i64 mm.stack, .int .i64 mm.locals, .slice xA mm.code.length xc, .slice yA mm.rows.length yc, .slice zA mm.frames.length zc], by simp, by omega, lhid (by rw [hlen]; exact HXn.out), lhid (by rw [hlen]; exact HWn.out), HEn, HRn, HBn, HZn, HIn, HFn, lhid ?_⟩
        rw [← HM.out, show n3 - acc.length = n3 - (acc ++ [mm]).length + 1 by omega, manyR, if_neg (by rw [H0.out]; simp), HROW.out]
       case measure => simp [intOf]; omega
   ·have t0 : ((σ'.1 : Int) == 0) = false := by rw [beq_eq_false_iff_ne]; omega
    have H0 := lhid h0
    clear h0
    have hm2 := HM.out
    rw [show n3 - acc.length = n3 - acc.length - 1 + 1 by omega, manyR, if_pos H0.out] at hm2
    injection hm2 with e1 e2
    subst e1 e2
    clear HM
    go_wp2_with fail
    exact HK3.out _ _ _ _ _ _ _ _ _ _ _ _ _ _ _ _ _ _ _ _ _ _ _ _ _ _ _ _ _ _ _ _ _ _ _ _ _ _ _ _ _ _ _ _ _ _ _ _ _ _ _ _ _ _ _ _ _ _ _ _ _ _ _ _ _ _ _ _ _ _ _ _ _ _ _ _ _ _ _ _ _ _ _ _ _ _ _ _ _ _ _ _ _ _ _ _ _ _ _ _ _ _ _ _ _ _ _ _ _ _ _ _ _ _ _ _ _ _ _ _ _ _ _ _ _ _ _ _ _ _ _ _ _ _ _ _ _ _ _ _ _ _ _ _ _ _ _ _ _ _ _ _ _ _ _ _ _ _ _ _ _ _ _ _ _ _ _ _ _ _ ⟨_, _, _, HXr, HWr, HEr, HRr, HBr, HZr, HIr, HFr⟩
  ·have he : acc.length = n3 := by omega
   have hlt2 : ¬ (acc.length : Int) < n3 := by omega
   have hm2 := HM.out
   rw [he, Nat.sub_self] at hm2
   injection hm2 with e1 e2
   subst e1 e2
   clear HM he
   go_wp2_with fail
   exact HK3.out _ _ _ _ _ _ _ _ _ _ _ _ _ _ _ _ _ _ _ _ _ _ _ _ _ _ _ _ _ _ _ _ _ _ _ _ _ _ _ _ _ _ _ _ _ _ _ _ _ _ _ _ _ _ _ _ _ _ _ _ _ _ _ _ _ _ _ _ _ _ _ _ _ _ _ _ _ _ _ _ _ _ _ _ _ _ _ _ _ _ _ _ _ _ _ _ _ _ _ _ _ _ _ _ _ _ _ _ _ _ _ _ _ _ _ _ _ _ _ _ _ _ _ _ _ _ _ _ _ _ _ _ _ _ _ _ _ _ _ _ _ _ _ _ _ _ _ _ _ _ _ _ _ _ _ _ _ _ _ _ _ _ _ _ _ _ _ _ _ _ ⟨_, _, _, HXr, HWr, HEr, HRr, HBr, HZr, HIr, HFr⟩
end Go.Proofs.YtgihfcimngogfaaGreat
