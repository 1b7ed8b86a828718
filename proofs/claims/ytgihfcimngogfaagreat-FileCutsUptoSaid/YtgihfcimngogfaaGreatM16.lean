/- Texts of this claim, joined: FileWr4, FileHolds. -/
import Derived.Test.YtgihfcimngogfaaGreatM14
import Derived.Test.YtgihfcimngogfaaGreatJFileWr1b
import Derived.Test.YtgihfcimngogfaaGreatM8
import Derived.Test.YtgihfcimngogfaaGreatM15
import Derived.Test.YtgihfcimngogfaaGreatJFileSame
import Derived.Deep.CutBlock
import Derived.Deep.RegionHeld3
namespace Go.Proofs.YtgihfcimngogfaaGreat
open Go.RowKit Go
set_option linter.unusedVariables false
theorem own_rdB {w : World} {B : Nat} {v : Value} {l : Bs} (h : w.ownsRow B 5 1 v l.length (byV l)) : RdB w v l := by
 rcases h.2 with ⟨h1, h2⟩ | ⟨g, cap, cur, hv, h1, h2, h3, h4, h5, h6⟩
 ·have hl : l = [] := by simpa using h2
  subst hl
  exact .inl ⟨h1, rfl⟩
 ·refine .inr ⟨g, 0, cap, hv, h3, h4, fun i c hc => ?_⟩
  have hb : v.ownBlock = some g := by rw [hv]; rfl
  have := h.cells hb i (.int .u8 (c.toNat : Int)) (by unfold byV; rw [List.getElem?_map, hc]; rfl)
  have hadd : (⟨g, 0, none⟩ : Addr).add i = ⟨g, 0 + i, none⟩ := by unfold Addr.add; split <;> simp_all
  rwa [hadd] at this
theorem wRef_len (L : List CoI) (k : Int) (t : Bs) (o : Ou) : (wRef L k t o).1.length = o.1.length + 2 := by
 unfold wRef
 rw [wNum_len, wFind_len]
theorem wCon_len (L : List CoI) (c : CoI) (o : Ou) (hk : c.kind = 1 ∨ c.kind = 7) : (wCon L c o).1.length ≤ o.1.length + c.text.length + 3 := by
 unfold wCon
 dsimp only
 rcases hk with hk | hk
 ·rw [if_pos hk]
  dsimp only
  rw [List.length_append, wNum_len, wNum_len]
  omega
 ·rw [if_neg (by omega), if_neg (by omega), if_neg (by omega), if_pos (.inl hk)]
  unfold wRef
  rw [wNum_len, wFind_len, wNum_len]
  omega
theorem wcon_any (w0 : World) (M : Nat) (pv : Value) (L : List CoI) (c : CoI) (o : Ou) (w : World) (h : Hid (Wo w0.heap.size M pv w o)) (hp : Hid (RdL 5 CoIE w0 pv L)) (hb : Hid (Below w0.heap.size w0 w)) (hBM : w0.heap.size ≤ M) (hl : o.1.length ≤ 1000000000) (ht : c.text.length ≤ 1000) (hk : Hid (c.kind = 1 ∨ c.kind = 7)) :
  Calls Tryz.prog 24 #[.pointer (some ⟨M, 0, none⟩), .agg #[.int .i64 c.kind, .int .i64 c.num, .string (tx c.text), .string (tx c.name), .string (tx c.desc)]] w fun e w' => e = .returned (.tuple #[]) ∧ Wo w0.heap.size M pv w' (wCon L c o) ∧ Below w0.heap.size w w' ∧ Stay tW w w' := by
 rcases hk.out with h1 | h1
 ·exact wcon_text w0 M pv L c o w h hb hBM hl (by omega) (lhid h1)
 ·exact wcon_class w0 M pv L c o w h hp hb hBM hl (lhid h1)
abbrev OCl (c : ClI) (A1 A2 A3 A4 : Option Addr) (c1 c2 c3 c4 : Nat) : Obj := .cells #[.int .i64 c.flags, .string (tx c.name), .string (tx c.super), .slice A1 0 c1, .slice A2 c.pool.length c2, .slice A3 0 c3, .slice A4 0 c4] 27
set_option maxHeartbeats 16000000 in
set_option maxRecDepth 100000 in
theorem wbare_any (c : ClI) (cv : Value) (w : World) (h : Hid (ClIV w c cv)) (h1 : c.ifaces = []) (h2 : c.fields = []) (h3 : c.methods = []) (hk : Hid (∀ x, x ∈ c.pool.drop 1 → (x.kind = 1 ∨ x.kind = 7) ∧ x.text.length ≤ 1000)) (hn : c.pool.length ≤ 100) (cc : Cls) (r : Bs) (hpar : Hid (parP (wBare c).1 = .ok cc r)) (hcc : Hid (clI cc = c)) (hsm : Hid (ClS cc)) (hms : Hid ((wBare c).2 = false)) (hparse : Hid (∀ (v : Value) (l : Bs) (w : World), Hid (RdB w v l) → Calls Tryz.prog 27 #[v] w (POut (parP l) w))) :
  Calls Tryz.prog 12 #[cv] w fun e w' => (∃ v, e = .returned (.tuple #[v, .int .i64 0]) ∧ w'.ownsRow w.heap.size 5 1 v (wBare c).1.length (byV (wBare c).1)) ∧ Below w.heap.size w w' := by
 obtain ⟨a1, a2, a3, a4, rfl, g1, g2, g3, g4⟩ := h.out
 have HCV0 := lhid h.out
 obtain ⟨A1, c1, rfl⟩ := g1.shape
 obtain ⟨A2, c2, rfl⟩ := g2.shape
 obtain ⟨A3, c3, rfl⟩ := g3.shape
 obtain ⟨A4, c4, rfl⟩ := g4.shape
 have HP := lhid g2
 rw [h1, h2, h3] at HCV0
 simp only [List.length_nil] at HCV0
 rw [h1, h2, h3]
 have hconv := Lib.run_convert_bytes_const (P := Tryz.prog) (w.alloc (OCl c A1 A2 A3 A4 c1 c2 c3 c4)) 28 5 #[.int .u8 82, .int .u8 69, .int .u8 71, .int .u8 76] 4 4 Tryz.underlying28 Tryz.underlying5
 rw [World.size_alloc] at hconv
 have HCONV := lhid hconv
 clear hconv g1 g2 g3 g4 h h1 h2 h3
 go_enter Tryz.func12, Tryz.ntmps12
 go_wp2_with fail
 rw [HCONV.out]
 go_wp2_with fail
 have HX0 : Hid ((((w.alloc (OCl c A1 A2 A3 A4 c1 c2 c3 c4)).alloc (.cells #[.int .u8 82, .int .u8 69, .int .u8 71, .int .u8 76] 5 (4, 5))).alloc (.cells #[.slice (some ⟨w.heap.size + 1, 0, none⟩) 4 4, .slice A2 c.pool.length c2, .bool false] 52)).heap[w.heap.size]? = some (OCl c A1 A2 A3 A4 c1 c2 c3 c4)) := lhid (by
  rw [Below.heap_alloc _ _ _ (by simp; omega), Below.heap_alloc _ _ _ (by simp)]
  exact heap_alloc_new w _)
 have HM0 : Hid ((((w.alloc (OCl c A1 A2 A3 A4 c1 c2 c3 c4)).alloc (.cells #[.int .u8 82, .int .u8 69, .int .u8 71, .int .u8 76] 5 (4, 5))).alloc (.cells #[.slice (some ⟨w.heap.size + 1, 0, none⟩) 4 4, .slice A2 c.pool.length c2, .bool false] 52)).heap[w.heap.size + 1 + 1]? = some (.cells #[.slice (some ⟨w.heap.size + 1, 0, none⟩) 4 4, .slice A2 c.pool.length c2, .bool false] 52 (0, 0))) := lhid (by
  have := heap_alloc_new ((w.alloc (OCl c A1 A2 A3 A4 c1 c2 c3 c4)).alloc (.cells #[.int .u8 82, .int .u8 69, .int .u8 71, .int .u8 76] 5 (4, 5))) (.cells #[.slice (some ⟨w.heap.size + 1, 0, none⟩) 4 4, .slice A2 c.pool.length c2, .bool false] 52)
  simpa using this)
 have HG0 : Hid ((((w.alloc (OCl c A1 A2 A3 A4 c1 c2 c3 c4)).alloc (.cells #[.int .u8 82, .int .u8 69, .int .u8 71, .int .u8 76] 5 (4, 5))).alloc (.cells #[.slice (some ⟨w.heap.size + 1, 0, none⟩) 4 4, .slice A2 c.pool.length c2, .bool false] 52)).heap[w.heap.size + 1]? = some (.cells #[.int .u8 82, .int .u8 69, .int .u8 71, .int .u8 76] 5 (4, 5))) := lhid (by
  rw [Below.heap_alloc _ _ _ (by simp)]
  have := heap_alloc_new (w.alloc (OCl c A1 A2 A3 A4 c1 c2 c3 c4)) (.cells #[.int .u8 82, .int .u8 69, .int .u8 71, .int .u8 76] 5 (4, 5))
  simpa using this)
 have HB0 : Hid (Below w.heap.size w (((w.alloc (OCl c A1 A2 A3 A4 c1 c2 c3 c4)).alloc (.cells #[.int .u8 82, .int .u8 69, .int .u8 71, .int .u8 76] 5 (4, 5))).alloc (.cells #[.slice (some ⟨w.heap.size + 1, 0, none⟩) 4 4, .slice A2 c.pool.length c2, .bool false] 52))) := lhid ((((Below.refl w.heap.size w).alloc (Nat.le_refl _) _).alloc (by simp) _).alloc (by simp; omega) _)
 have HCC : Hid (∀ (j : Nat) (v : Value), (byV magicB)[j]? = some v → (((w.alloc (OCl c A1 A2 A3 A4 c1 c2 c3 c4)).alloc (.cells #[.int .u8 82, .int .u8 69, .int .u8 71, .int .u8 76] 5 (4, 5))).alloc (.cells #[.slice (some ⟨w.heap.size + 1, 0, none⟩) 4 4, .slice A2 c.pool.length c2, .bool false] 52)).cell? ((⟨w.heap.size + 1, 0, none⟩ : Addr).add j) = some v) := lhid (World.news_of_block HG0.out)
 clear HG0 HCONV
 generalize (((w.alloc (OCl c A1 A2 A3 A4 c1 c2 c3 c4)).alloc (.cells #[.int .u8 82, .int .u8 69, .int .u8 71, .int .u8 76] 5 (4, 5))).alloc (.cells #[.slice (some ⟨w.heap.size + 1, 0, none⟩) 4 4, .slice A2 c.pool.length c2, .bool false] 52)) = w0 at *
 with_reducible refine (wnum_first w.heap.size (w.heap.size + 1 + 1) (w.heap.size + 1) _ 2 (lhid rfl) c.pool.length w0 HM0 HCC HB0.out.size (by omega)).mono ?_
 rintro e w1 ⟨rfl, h', b', s'⟩
 have HW1 := lhid h'
 have HB1 := lhid (HB0.out.trans b')
 have HX1 := lhid (s' _ _ _ _ (by simp) HX0.out)
 clear h' b' s' HX0 HM0 HCC HB0
 obtain ⟨oE, hoE⟩ : ∃ o, wHead c = o := ⟨_, rfl⟩
 have HOE := lhid hoE
 clear hoE
 go_upto_block 0 with fail
 go_cut [] from 11 (fun wc => Hid (Wo w.heap.size (w.heap.size + 1 + 1) (.slice A2 c.pool.length c2) wc oE) ∧ Hid (Below w.heap.size w wc) ∧ Hid (wc.heap[w.heap.size]? = some (OCl c A1 A2 A3 A4 c1 c2 c3 c4)) ∧ Hid (oE.1.length ≤ 200000))
 case first =>
  go_wp2_with fail
  go_loopw [5] (fun i wr => ∃ (j : Nat) (o : Ou), i = .int .i64 j ∧ 1 ≤ j ∧ j ≤ c.pool.length + 1 ∧ o.1.length ≤ 6 + 1003 * j ∧ Hid (Wo w.heap.size (w.heap.size + 1 + 1) (.slice A2 c.pool.length c2) wr o) ∧ Hid (Below w.heap.size w wr) ∧ Hid (wr.heap[w.heap.size]? = some (OCl c A1 A2 A3 A4 c1 c2 c3 c4)) ∧ Hid (wCons c.pool (c.pool.drop j) o = oE)) (fun i _ => c.pool.length + 1 - (intOf i).toNat)
  case atStart => exact ⟨1, wNum 2 c.pool.length (magicB, false), rfl, Nat.le_refl _, by omega, by rw [wNum_len]; show 4 + 2 ≤ _; omega, HW1, HB1, HX1, HOE⟩
  case round =>
   obtain ⟨j, o, rfl, hj1, hj2, hol, HWr, HBr, HXr, HE⟩ := hrel
   have y4 := heap_cell (i := 4) HXr.out rfl
   by_cases hlt : j < c.pool.length
   ·obtain ⟨x, hx⟩ : ∃ x, c.pool[j]? = some x := ⟨_, List.getElem?_eq_getElem hlt⟩
    have hxm : x ∈ c.pool.drop 1 := List.mem_of_getElem? (i := j - 1) (by rw [List.getElem?_drop]; rw [show 1 + (j - 1) = j by omega]; exact hx)
    have hkx := hk.out x hxm
    obtain ⟨g, o', cx, hA, rfl, hc⟩ := (HP.out.below kept_co HBr.out).at' hx
    obtain rfl := hA
    have b0 := hc 0 _ rfl
    have b1 := hc 1 _ rfl
    have b2 := hc 2 _ rfl
    have b3 := hc 3 _ rfl
    have b4 := hc 4 _ rfl
    rw [Nat.add_zero] at b0
    have k3 : (j : Int) < c.pool.length := by omega
    have k0 : (0 : Int) ≤ j := by omega
    have HST := lhid ((wCons_step hx o).symm.trans HE.out)
    have hln := wCon_len c.pool x o hkx.1
    have hx1000 := hkx.2
    have HKX := lhid hkx.1
    clear hc hx hxm hkx HE
    have hb' := HBr.out
    go_wp2_with fail
    with_reducible refine (wcon_any w (w.heap.size + 1 + 1) _ c.pool x o wr HWr HP HBr (by omega) (by omega) hx1000 HKX).mono ?_
    rintro e w2 ⟨rfl, h', b', s'⟩
    have HW2 := lhid h'
    have HB2 := lhid (HBr.out.trans b')
    have HX2 := lhid (s' _ _ _ _ (by simp) HXr.out)
    clear h' b' s' hb'
    go_wp2_with fail
    go_roundw
    case rel => exact ⟨j + 1, wCon c.pool x o, by go_num, by omega, by omega, by omega, HW2, HB2, HX2, HST⟩
    case measure => simp [intOf]; omega
   ·have k3 : ¬ (j : Int) < c.pool.length := by omega
    have he := HE.out
    rw [List.drop_eq_nil_of_le (by omega)] at he
    have he' : o = oE := he
    subst he'
    clear he HE
    go_wp2_with fail
    go_meet
    case rel => exact ⟨HWr, HBr, HXr, lhid (by omega)⟩
 case rest =>
  obtain ⟨HWs, HBs, HXs, HLs⟩ := hcut
  clear HW1 HB1 HX1
  generalize wc = ws at *
  have hls := HLs.out
  have y0 := heap_cell (i := 0) HXs.out rfl
  go_wp2_with fail
  with_reducible refine (wnumI w.heap.size (w.heap.size + 1 + 1) _ 2 2 (lhid rfl) c.flags oE _ HWs (by omega) HBs.out.size (by omega) (by omega)).mono ?_
  rintro e wa ⟨rfl, h', b', s'⟩
  have HWa := lhid h'
  have HBa := lhid (HBs.out.trans b')
  have HXa := lhid (s' _ _ _ _ (by simp) HXs.out)
  clear h' b' s'
  have y1 := heap_cell (i := 1) HXa.out rfl
  go_wp2_with fail
  with_reducible refine (wfind_any w.heap.size (w.heap.size + 1 + 1) _ c.pool 7 c.name (wNum 2 c.flags oE) _ HWa (lhid (HP.out.below kept_co HBa.out)) HBa.out.size (by omega)).mono ?_
  rintro e wb ⟨rfl, h', b', s'⟩
  have HWb := lhid h'
  have HBb := lhid (HBa.out.trans b')
  have HXb := lhid (s' _ _ _ _ (by simp) HXa.out)
  clear h' b' s'
  go_wp2_with fail
  with_reducible refine (wnumI w.heap.size (w.heap.size + 1 + 1) _ 2 2 (lhid rfl) (wFind c.pool 7 c.name (wNum 2 c.flags oE)).1 (wFind c.pool 7 c.name (wNum 2 c.flags oE)).2 _ HWb (by omega) HBb.out.size (by omega) (by rw [wFind_len, wNum_len]; omega)).mono ?_
  rintro e wc ⟨rfl, h', b', s'⟩
  have HWc := lhid h'
  have HBc := lhid (HBb.out.trans b')
  have HXc := lhid (s' _ _ _ _ (by simp) HXb.out)
  clear h' b' s'
  have y2 := heap_cell (i := 2) HXc.out rfl
  go_wp2_with fail
  with_reducible refine (wfind_any w.heap.size (w.heap.size + 1 + 1) _ c.pool 7 c.super (wRef c.pool 7 c.name (wNum 2 c.flags oE)) _ HWc (lhid (HP.out.below kept_co HBc.out)) HBc.out.size (by omega)).mono ?_
  rintro e wd ⟨rfl, h', b', s'⟩
  have HWd := lhid h'
  have HBd := lhid (HBc.out.trans b')
  have HXd := lhid (s' _ _ _ _ (by simp) HXc.out)
  clear h' b' s'
  go_wp2_with fail
  with_reducible refine (wnumI w.heap.size (w.heap.size + 1 + 1) _ 2 2 (lhid rfl) (wFind c.pool 7 c.super (wRef c.pool 7 c.name (wNum 2 c.flags oE))).1 (wFind c.pool 7 c.super (wRef c.pool 7 c.name (wNum 2 c.flags oE))).2 _ HWd (by omega) HBd.out.size (by omega) (by rw [wFind_len]; unfold wRef; rw [wNum_len, wFind_len, wNum_len]; omega)).mono ?_
  rintro e we ⟨rfl, h', b', s'⟩
  have HWe := lhid h'
  have HBe := lhid (HBd.out.trans b')
  have HXe := lhid (s' _ _ _ _ (by simp) HXd.out)
  clear h' b' s'
  have y3 := heap_cell (i := 3) HXe.out rfl
  go_wp2_with fail
  with_reducible refine (wnumI w.heap.size (w.heap.size + 1 + 1) _ 2 2 (lhid rfl) 0 (wRef c.pool 7 c.super (wRef c.pool 7 c.name (wNum 2 c.flags oE))) _ HWe (by omega) HBe.out.size (by omega) (by simp only [wNum_len, wRef_len]; omega)).mono ?_
  rintro e wf ⟨rfl, h', b', s'⟩
  have HWf := lhid h'
  have HBf := lhid (HBe.out.trans b')
  have HXf := lhid (s' _ _ _ _ (by simp) HXe.out)
  clear h' b' s'
  have y3f := heap_cell (i := 3) HXf.out rfl
  have y5f := heap_cell (i := 5) HXf.out rfl
  go_wp2_with fail
  go_loop [6] (fun i => i = .int .i64 0) (fun _ => 0)
  case atStart => rfl
  case round =>
   subst hrel
   go_wp2_with fail
   with_reducible refine (wnumI w.heap.size (w.heap.size + 1 + 1) _ 2 2 (lhid rfl) 0 (wNum 2 0 (wRef c.pool 7 c.super (wRef c.pool 7 c.name (wNum 2 c.flags oE)))) _ HWf (by omega) HBf.out.size (by omega) (by simp only [wNum_len, wRef_len]; omega)).mono ?_
   rintro e wg ⟨rfl, h', b', s'⟩
   have HWg := lhid h'
   have HBg := lhid (HBf.out.trans b')
   have HXg := lhid (s' _ _ _ _ (by simp) HXf.out)
   clear h' b' s'
   have y5g := heap_cell (i := 5) HXg.out rfl
   have y6g := heap_cell (i := 6) HXg.out rfl
   go_wp2_with fail
   go_loop [7] (fun i => i = .int .i64 0) (fun _ => 0)
   case atStart => rfl
   case round =>
    subst hrel
    go_wp2_with fail
    with_reducible refine (wnumI w.heap.size (w.heap.size + 1 + 1) _ 2 2 (lhid rfl) 0 (wNum 2 0 (wNum 2 0 (wRef c.pool 7 c.super (wRef c.pool 7 c.name (wNum 2 c.flags oE))))) _ HWg (by omega) HBg.out.size (by omega) (by simp only [wNum_len, wRef_len]; omega)).mono ?_
    rintro e wh ⟨rfl, h', b', s'⟩
    have HWh := lhid h'
    have HBh := lhid (HBg.out.trans b')
    have HXh := lhid (s' _ _ _ _ (by simp) HXg.out)
    clear h' b' s'
    have y6h := heap_cell (i := 6) HXh.out rfl
    go_wp2_with fail
    go_loop [8] (fun i => i = .int .i64 0) (fun _ => 0)
    case atStart => rfl
    case round =>
     subst hrel
     have hwb : wBare c = (wNum 2 0 (wNum 2 0 (wNum 2 0 (wRef c.pool 7 c.super (wRef c.pool 7 c.name (wNum 2 c.flags oE)))))) := by unfold wBare; rw [HOE.out]
     rw [← hwb] at HWh
     obtain ⟨v, hM, hO⟩ := HWh.out
     have hmm := hms.out
     rw [hmm] at hM
     have HMh := lhid hM
     have HRD := lhid (own_rdB hO)
     obtain ⟨vA, vc, rfl⟩ := own_shape hO
     have HOh := lhid hO
     have m0 := heap_cell (i := 0) hM rfl
     have m2 := heap_cell (i := 2) hM rfl
     clear hwb hM hO hmm hls HWs HBs HXs HWa HBa HXa HWb HBb HXb HWc HBc HXc HWd HBd HXd HWe HBe HXe HWf HBf HXf HWg HBg HXg y0 y1 y2 y3 y3f y5f y5g y6g
     go_wp2_with fail
     with_reducible refine (hparse.out _ _ _ HRD).mono ?_
     rintro e wp ⟨hb, hx⟩
     rw [hpar.out] at hx
     obtain ⟨bv, g, rfl, xa, xb, xd, rfl, v1, v2, v3, v4⟩ := hx
     obtain ⟨B1, d1, rfl⟩ := slO_shape v1
     obtain ⟨B3, d3, rfl⟩ := slO_shape v3
     obtain ⟨B4, d4, rfl⟩ := slO_shape v4
     have hback := cls_rd hsm.out v1 v2 v3 v4
     rw [hcc.out] at hback
     have HBACK := lhid hback
     have HBp := lhid (HBh.out.trans (below_lt hb HBh.out.size))
     have HXp : Hid (wp.heap[w.heap.size]? = some (OCl c A1 A2 A3 A4 c1 c2 c3 c4)) := lhid ((hb.block _ (heap_lt HXh.out)).trans HXh.out)
     have HMp := lhid ((hb.block _ (heap_lt HMh.out)).trans HMh.out)
     have HOp := lhid (own_far HOh.out fun g hg => hb.block g (HOh.out.lt g hg).2)
     clear hback v1 v2 v3 v4 hb m0 m2 y6h HRD HMh HXh HBh HWh
     have HXq := lhid ((Below.heap_alloc wp (.cells #[.int .i64 cc.flags, .string (tx cc.name), .string (tx cc.super), .slice B1 cc.ifaces.length d1, .slice (some ⟨g, 0, none⟩) cc.pool.length cc.pool.length, .slice B3 cc.fields.length d3, .slice B4 cc.methods.length d4] 27) _ (heap_lt HXp.out)).trans HXp.out)
     have HMq := lhid ((Below.heap_alloc wp (.cells #[.int .i64 cc.flags, .string (tx cc.name), .string (tx cc.super), .slice B1 cc.ifaces.length d1, .slice (some ⟨g, 0, none⟩) cc.pool.length cc.pool.length, .slice B3 cc.fields.length d3, .slice B4 cc.methods.length d4] 27) _ (heap_lt HMp.out)).trans HMp.out)
     have HBq := lhid (HBp.out.alloc HBp.out.size (.cells #[.int .i64 cc.flags, .string (tx cc.name), .string (tx cc.super), .slice B1 cc.ifaces.length d1, .slice (some ⟨g, 0, none⟩) cc.pool.length cc.pool.length, .slice B3 cc.fields.length d3, .slice B4 cc.methods.length d4] 27))
     have hbq := (Below.refl wp.heap.size wp).alloc (Nat.le_refl _) (.cells #[.int .i64 cc.flags, .string (tx cc.name), .string (tx cc.super), .slice B1 cc.ifaces.length d1, .slice (some ⟨g, 0, none⟩) cc.pool.length cc.pool.length, .slice B3 cc.fields.length d3, .slice B4 cc.methods.length d4] 27)
     have HOq := lhid (own_far HOp.out fun g hg => hbq.block g (HOp.out.lt g hg).2)
     have HKq := lhid (HBACK.out.below hbq)
     have HCq := lhid (HCV0.out.below HBq.out)
     have HBQ := lhid (heap_alloc_new wp (.cells #[.int .i64 cc.flags, .string (tx cc.name), .string (tx cc.super), .slice B1 cc.ifaces.length d1, .slice (some ⟨g, 0, none⟩) cc.pool.length cc.pool.length, .slice B3 cc.fields.length d3, .slice B4 cc.methods.length d4] 27))
     clear hbq
     have m0 := heap_cell (i := 0) HMq.out rfl
     have m2 := heap_cell (i := 2) HMq.out rfl
     have y0 := heap_cell (i := 0) HXq.out rfl
     have y1 := heap_cell (i := 1) HXq.out rfl
     have y2 := heap_cell (i := 2) HXq.out rfl
     have y3 := heap_cell (i := 3) HXq.out rfl
     have y4 := heap_cell (i := 4) HXq.out rfl
     have y5 := heap_cell (i := 5) HXq.out rfl
     have y6 := heap_cell (i := 6) HXq.out rfl
     go_wp2_with fail
     with_reducible refine (scls_any c _ _ _ HKq HCq).mono ?_
     rintro e wz ⟨rfl, hb⟩
     have HMz := lhid ((hb.block _ (heap_lt HMq.out)).trans HMq.out)
     have HBz := lhid (HBq.out.trans (below_lt hb HBq.out.size))
     have HOz := lhid (own_far HOq.out fun g hg => hb.block g (HOq.out.lt g hg).2)
     clear hb m0 m2 y0 y1 y2 y3 y4 y5 y6
     have m0 := heap_cell (i := 0) HMz.out rfl
     go_wp2_with fail
     go_ret2
     exact ⟨⟨_, rfl, HOz.out⟩, HBz.out⟩
end Go.Proofs.YtgihfcimngogfaaGreat
namespace Go.Proofs.YtgihfcimngogfaaGreat
open Go.RowKit Go
set_option linter.unusedVariables false
abbrev leastB : Bs := [82, 69, 71, 76, 0, 5, 1, 0, 1, 97, 1, 0, 6, 79, 98, 106, 101, 99, 116, 7, 0, 1, 7, 0, 2, 0, 0, 0, 3, 0, 4, 0, 0, 0, 0, 0, 0]
abbrev OP : Obj := .cells #[.int .i64 0, .int .i64 0, .string ⟨#[]⟩, .string ⟨#[]⟩, .string ⟨#[]⟩, .int .i64 1, .int .i64 0, .string ⟨#[97]⟩, .string ⟨#[]⟩, .string ⟨#[]⟩, .int .i64 1, .int .i64 0, .string ⟨#[79, 98, 106, 101, 99, 116]⟩, .string ⟨#[]⟩, .string ⟨#[]⟩, .int .i64 7, .int .i64 0, .string ⟨#[97]⟩, .string ⟨#[]⟩, .string ⟨#[]⟩, .int .i64 7, .int .i64 0, .string ⟨#[79, 98, 106, 101, 99, 116]⟩, .string ⟨#[]⟩, .string ⟨#[]⟩] 39
theorem least_rows (w : World) : RowsAt (w.alloc OP) w.heap.size 39 5 (leastC.pool.map conV) := by
 refine ⟨_, heap_alloc_new w OP, rfl, fun i r hr => ?_⟩
 match i, hr with
 | 0, hr => cases hr; exact ⟨rfl, fun j v hj => by match j, hj with | 0, h => exact h | 1, h => exact h | 2, h => exact h | 3, h => exact h | 4, h => exact h⟩
 | 1, hr => cases hr; exact ⟨rfl, fun j v hj => by match j, hj with | 0, h => exact h | 1, h => exact h | 2, h => exact h | 3, h => exact h | 4, h => exact h⟩
 | 2, hr => cases hr; exact ⟨rfl, fun j v hj => by match j, hj with | 0, h => exact h | 1, h => exact h | 2, h => exact h | 3, h => exact h | 4, h => exact h⟩
 | 3, hr => cases hr; exact ⟨rfl, fun j v hj => by match j, hj with | 0, h => exact h | 1, h => exact h | 2, h => exact h | 3, h => exact h | 4, h => exact h⟩
 | 4, hr => cases hr; exact ⟨rfl, fun j v hj => by match j, hj with | 0, h => exact h | 1, h => exact h | 2, h => exact h | 3, h => exact h | 4, h => exact h⟩
theorem least_small : ClS leastC := ⟨by decide, by decide, by decide, by decide, fun m hm => by simp [leastC] at hm⟩
theorem least_val (w : World) : ClIV (w.alloc OP) (clI leastC) (.agg #[.int .i64 0, .string ⟨#[97]⟩, .string ⟨#[79, 98, 106, 101, 99, 116]⟩, .slice none 0 0, .slice (some ⟨w.heap.size, 0, none⟩) 5 5, .slice none 0 0, .slice none 0 0]) :=
 cls_rd (c := leastC) least_small ⟨[], World.ownsRow_nil _ _ _ _, rfl⟩ (least_rows w) ⟨[], World.ownsRow_nil _ _ _ _, rfl⟩ ⟨[], World.ownsRow_nil _ _ _ _, rfl⟩
theorem least_pool : ∀ x, x ∈ (clI leastC).pool.drop 1 → (x.kind = 1 ∨ x.kind = 7) ∧ x.text.length ≤ 1000 := by
 intro x hx
 have h : x ∈ [(⟨1, 0, [97], [], []⟩ : CoI), ⟨1, 0, objB, [], []⟩, ⟨7, 0, [97], [], []⟩, ⟨7, 0, objB, [], []⟩] := hx
 simp only [List.mem_cons, List.not_mem_nil, or_false] at h
 rcases h with rfl | rfl | rfl | rfl <;> decide
set_option maxHeartbeats 8000000 in
set_option maxRecDepth 100000 in
theorem least_any (hparse : Hid (∀ (v : Value) (l : Bs) (w : World), Hid (RdB w v l) → Calls Tryz.prog 27 #[v] w (POut (parP l) w))) (w : World) :
  Calls Tryz.prog 22 #[] w fun e w' => (∃ A c, e = .returned (.slice A 37 c) ∧ w'.ownsRow w.heap.size 5 1 (.slice A 37 c) 37 (byV leastB)) ∧ Below w.heap.size w w' := by
 have HB := lhid ((Below.refl w.heap.size w).alloc (Nat.le_refl _) OP)
 have HCV := lhid (least_val w)
 go_enter Tryz.func22, Tryz.ntmps22
 go_wp2_with fail
 with_reducible refine (wbare_any (clI leastC) _ _ HCV rfl rfl rfl (lhid least_pool) (by decide) leastC [] (lhid (by rw [least_bytes]; exact least_par)) (lhid rfl) (lhid least_small) (lhid (by rw [least_bytes])) hparse).mono ?_
 rintro e w2 ⟨⟨v, rfl, hO⟩, hb⟩
 rw [least_bytes] at hO
 obtain ⟨A, c, rfl⟩ := own_shape hO
 have HO := lhid hO
 have HB2 := lhid (HB.out.trans (below_lt hb HB.out.size))
 have HSZ := lhid HB.out.size
 clear hO hb
 go_wp2_with fail
 go_ret
 exact ⟨⟨A, c, rfl, own_base HO.out HSZ.out⟩, HB2.out⟩
set_option maxHeartbeats 8000000 in
set_option maxRecDepth 100000 in
theorem fholds_any (hparse : Hid (∀ (v : Value) (l : Bs) (w : World), Hid (RdB w v l) → Calls Tryz.prog 27 #[v] w (POut (parP l) w))) (w : World) :
  Calls Tryz.prog 11 #[] w fun e w' => e = .returned (.bool true) ∧ Below w.heap.size w w' := by
 go_enter Tryz.func11, Tryz.ntmps11
 go_wp2_with fail
 with_reducible refine (least_any hparse w).mono ?_
 rintro e w1 ⟨⟨A, c, rfl, hO⟩, hb⟩
 have HB1 := lhid hb
 have HR1 : Hid (RdB w1 (.slice A 37 c) leastB) := lhid (own_rdB (l := leastB) hO)
 clear hO hb
 go_wp2_with fail
 with_reducible refine (parse_any _ _ _ HR1).mono ?_
 rintro e w2 ⟨hb, hx⟩
 rw [show parP leastB = .ok leastC [] from least_par] at hx
 obtain ⟨cv, g, rfl, xa, xb, xd, rfl, v1, v2, v3, v4⟩ := hx
 obtain ⟨B1, d1, rfl⟩ := slO_shape v1
 obtain ⟨B3, d3, rfl⟩ := slO_shape v3
 obtain ⟨B4, d4, rfl⟩ := slO_shape v4
 have HB2 := lhid (HB1.out.trans (below_lt hb HB1.out.size))
 clear hb v1 v2 v3 v4
 have HB3 := lhid (HB2.out.alloc HB2.out.size (.cells #[.int .i64 leastC.flags, .string (tx leastC.name), .string (tx leastC.super), .slice B1 leastC.ifaces.length d1, .slice (some ⟨g, 0, none⟩) leastC.pool.length leastC.pool.length, .slice B3 leastC.fields.length d3, .slice B4 leastC.methods.length d4] 27))
 have HX3 := lhid (heap_alloc_new w2 (.cells #[.int .i64 leastC.flags, .string (tx leastC.name), .string (tx leastC.super), .slice B1 leastC.ifaces.length d1, .slice (some ⟨g, 0, none⟩) leastC.pool.length leastC.pool.length, .slice B3 leastC.fields.length d3, .slice B4 leastC.methods.length d4] 27))
 go_wp2_with fail
 with_reducible refine (least_any hparse _).mono ?_
 rintro e w4 ⟨⟨A', c', rfl, hO⟩, hb⟩
 have HB4 := lhid (HB3.out.trans (below_lt hb HB3.out.size))
 have HX4 : Hid (w4.heap[w2.heap.size]? = some (.cells #[.int .i64 leastC.flags, .string (tx leastC.name), .string (tx leastC.super), .slice B1 leastC.ifaces.length d1, .slice (some ⟨g, 0, none⟩) leastC.pool.length leastC.pool.length, .slice B3 leastC.fields.length d3, .slice B4 leastC.methods.length d4] 27)) := lhid ((hb.block _ (heap_lt HX3.out)).trans HX3.out)
 have HO4 := lhid hO
 have hsz := hb.size
 clear hO hb
 obtain ⟨i0, hi0, hz0, hz1, hz2⟩ := info_parts infoU8
 have HOa : Hid ((w4.alloc (.cells #[.int .u8 0] 5)).ownsRow w.heap.size 5 1 (.slice A' 37 c') 37 (byV leastB)) := lhid ((own_base HO4.out HB3.out.size).alloc _)
 have HNa : Hid ((w4.alloc (.cells #[.int .u8 0] 5)).heap[w4.heap.size]? = some (.cells #[.int .u8 0] 5)) := lhid (heap_alloc_new w4 _)
 have HXa : Hid ((w4.alloc (.cells #[.int .u8 0] 5)).heap[w2.heap.size]? = some (.cells #[.int .i64 leastC.flags, .string (tx leastC.name), .string (tx leastC.super), .slice B1 leastC.ifaces.length d1, .slice (some ⟨g, 0, none⟩) leastC.pool.length leastC.pool.length, .slice B3 leastC.fields.length d3, .slice B4 leastC.methods.length d4] 27)) := lhid ((Below.heap_alloc w4 _ _ (heap_lt HX4.out)).trans HX4.out)
 have HBa : Hid (Below w.heap.size w (w4.alloc (.cells #[.int .u8 0] 5))) := lhid (HB4.out.alloc HB4.out.size _)
 go_wp2_with (at_builtin; refine wpList_append_own _ rfl (.tmp 11) (.tmp 12) 28 rfl w.heap.size 5 i0 (.int .u8 0) 1 1 Tryz.underlying28 hi0 hz0 hz1 hz2 rfl (by decide) (.slice A' 37 c') 37 (byV leastB) rfl HOa.out ⟨w4.heap.size, 0, none⟩ 1 1 [.int .u8 0] rfl rfl (World.news_of_block HNa.out) ?c2 ?c3 ?c4 HBa.out.size ?_)
 case c2 => intro u hu; simp at hu; subst hu; rfl
 case c3 => unfold maxLen; omega
 case c4 => omega
 intro v' w6 hown hgrow _
 obtain ⟨A6, c6, rfl⟩ := own_shape hown
 have HB6 := lhid (HBa.out.trans (grownBelow hgrow (own_lt HOa.out) HBa.out.size))
 have HX6 : Hid (w6.heap[w2.heap.size]? = some (.cells #[.int .i64 leastC.flags, .string (tx leastC.name), .string (tx leastC.super), .slice B1 leastC.ifaces.length d1, .slice (some ⟨g, 0, none⟩) leastC.pool.length leastC.pool.length, .slice B3 leastC.fields.length d3, .slice B4 leastC.methods.length d4] 27)) := lhid ((grown_stay (Ts := [27]) hgrow HOa.out (by decide)) _ _ _ _ (by simp) HXa.out)
 have HR6 : Hid (RdB w6 (.slice A6 (37 + 1) c6) (leastB ++ [0])) := lhid (own_rdB (l := leastB ++ [0]) hown)
 clear hown hgrow
 go_wp2_with fail
 with_reducible refine (parse_any _ _ _ HR6).mono ?_
 rintro e w7 ⟨hb, hx⟩
 rw [show parP (leastB ++ [0]) = .er 11 from least_more] at hx
 obtain rfl := hx
 have HB7 := lhid (HB6.out.trans (below_lt hb HB6.out.size))
 have HX7 : Hid (w7.heap[w2.heap.size]? = some (.cells #[.int .i64 leastC.flags, .string (tx leastC.name), .string (tx leastC.super), .slice B1 leastC.ifaces.length d1, .slice (some ⟨g, 0, none⟩) leastC.pool.length leastC.pool.length, .slice B3 leastC.fields.length d3, .slice B4 leastC.methods.length d4] 27)) := lhid ((hb.block _ (heap_lt HX6.out)).trans HX6.out)
 clear hb
 have HX8 := lhid ((Below.heap_alloc w7 zC _ (heap_lt HX7.out)).trans HX7.out)
 have HB8 := lhid (HB7.out.alloc HB7.out.size zC)
 have x1 := heap_cell (i := 1) HX8.out rfl
 have x2 := heap_cell (i := 2) HX8.out rfl
 have x4 := heap_cell (i := 4) HX8.out rfl
 have f1 : ((tx leastC.name).toList == [97]) = true := by rw [tx_toList]; rfl
 have f2 : ((tx leastC.super).toList == [79, 98, 106, 101, 99, 116]) = true := by rw [tx_toList]; rfl
 have f3 : ((leastC.pool.length : Int) == 5) = true := rfl
 go_wp2_with fail
 go_ret
 exact ⟨rfl, HB8.out⟩
end Go.Proofs.YtgihfcimngogfaaGreat
