/- The rows that may still catch something: the program's trimmedRows. -/
import Derived.Test.YtbkeneadoccodaaM13
import Derived.Deep.AppendLies
import Derived.Deep.RegionLaw
namespace Go.Proofs.Ytbkeneadoccodaa
open Go.RowKit Go
set_option linter.unusedVariables false
set_option linter.unusedSimpArgs false
def rowK (R : List Bool) (N : Nat → Int) (r : RwI) : Bool := decide (N r.fr.toNat < N r.too.toNat) && (R[r.at_.toNat]?.getD false)
def rowN (N : Nat → Int) (r : RwI) : RwI := ⟨N r.fr.toNat, N r.too.toNat, N r.at_.toNat, r.cls⟩
def trR (rows : List RwI) (R : List Bool) (N : Nat → Int) (m : Nat) : List RwI := ((rows.take m).filter (rowK R N)).map (rowN N)
theorem trR_yes {rows : List RwI} {R : List Bool} {N : Nat → Int} {k : Nat} {r : RwI} (hx : rows[k]? = some r) (h : rowK R N r = true) : trR rows R N (k + 1) = trR rows R N k ++ [rowN N r] := by
 unfold trR
 rw [List.take_add_one, hx]
 simp [h]
theorem trR_no {rows : List RwI} {R : List Bool} {N : Nat → Int} {k : Nat} {r : RwI} (hx : rows[k]? = some r) (h : rowK R N r = false) : trR rows R N (k + 1) = trR rows R N k := by
 unfold trR
 rw [List.take_add_one, hx]
 simp [h]
theorem trR_len (rows : List RwI) (R : List Bool) (N : Nat → Int) (m : Nat) : (trR rows R N m).length ≤ m := by
 unfold trR
 rw [List.length_map]
 exact Nat.le_trans (List.length_filter_le _ _) (by simp; omega)
def OwR (w0 w : World) (B : Nat) (v : Value) (L : List RwI) : Prop := ∃ xs, w.ownsRow B 52 4 v L.length xs ∧ RowsE 4 (RwE w0) L xs
set_option maxHeartbeats 16000000 in
set_option maxRecDepth 100000 in
theorem trimmedRows_any {P Q S : Nat → Prop} (rows : List RwI) (n : Nat) (cv rv nv : Value) (R : List Bool) (N : Nat → Int) (w : World) (h : Hid (RdX P 4 RwE w cv rows)) (hcl : Hid (rows.length * 40 ≤ 140737488355328)) (hn : Hid (n * 96 ≤ 140737488355328))
    (hr : Hid (RdX S 1 BlE w rv R)) (hrl : Hid (R.length = n)) (hv : Hid (RdX Q 1 NuE w nv ((List.range (n + 1)).map N))) (hrow : Hid (∀ r ∈ rows, (0 ≤ r.fr ∧ r.fr ≤ n) ∧ (0 ≤ r.too ∧ r.too ≤ n) ∧ 0 ≤ r.at_ ∧ r.at_ < n)) :
    Calls Try.prog 39 #[cv, rv, nv] w fun e w' => ∃ v, e = .returned v ∧ OwR w w' w.heap.size v (trR rows R N rows.length) ∧ Below w.heap.size w w' := by
  obtain ⟨D, dcap, hD⟩ := h.out.shape
  subst hD
  obtain ⟨RA, rc, hRA⟩ := hr.out.shape
  rw [hrl.out] at hRA
  subst hRA
  obtain ⟨NA, nc, hNA⟩ := hv.out.shape
  rw [show ((List.range (n + 1)).map N).length = n + 1 by simp] at hNA
  subst hNA
  have hnow : ∀ j : Nat, j < n + 1 → ∃ ng no, NA = some ⟨ng, no, none⟩ ∧ w.cell? ⟨ng, no + j, none⟩ = some (.int .i64 (N j)) := fun j hj => by
    obtain ⟨g, o, c1, h1, _, h2, h3⟩ := hv.out.at' (i := j) (a := N j) (by simp [hj])
    have h2 : c1 = [.int .i64 (N j)] := h2
    subst h2
    have h4 := h3 0 _ rfl
    rw [Nat.add_zero, Nat.mul_one] at h4
    exact ⟨g, o, h1, h4⟩
  obtain ⟨ng, no, hNA, _⟩ := hnow n (by omega)
  subst hNA
  have HNOW : Hid (∀ j : Nat, j < n + 1 → w.cell? ⟨ng, no + j, none⟩ = some (.int .i64 (N j))) := lhid fun j hj => by
    obtain ⟨g, o, h1, h2⟩ := hnow j hj
    injection h1 with h1
    injection h1 with h1 h3
    subst h1 h3
    exact h2
  have hel := h.out.len
  obtain ⟨i0, hi0, hz0, hz1, hz2⟩ := info_parts info_rw
  obtain ⟨TL, hTL⟩ : ∃ TL, trR rows R N rows.length = TL := ⟨_, rfl⟩
  rw [hTL]
  have HTL := lhid hTL
  clear hnow hTL
  go_enter Try.func39, Try.ntmps39
  go_wp2_with fail
  go_loopw [7, 14] (fun v j wr => ∃ (L : List RwI) (A : Option Addr) (q k : Nat), v = .slice A L.length q ∧ j = .int .i64 k ∧ k ≤ rows.length ∧ Hid (L = trR rows R N k) ∧ Hid (OwR w wr w.heap.size (.slice A L.length q) L) ∧ Hid (Below w.heap.size w wr)) (fun _ j _ => rows.length - (intOf j).toNat)
  case atStart => exact ⟨[], none, 0, 0, rfl, rfl, Nat.zero_le _, lhid (by simp [trR]), lhid ⟨[], World.ownsRow_nil _ _ _ _, rowsE_nil _ _⟩, lhid (Below.refl _ _)⟩
  case round =>
    obtain ⟨L, A, q, k, rfl, rfl, hk, HL, HO, HB⟩ := hrel
    by_cases hlt : k < rows.length
    ·
      obtain ⟨r, hx⟩ : ∃ r, rows[k]? = some r := ⟨_, List.getElem?_eq_getElem hlt⟩
      obtain ⟨g, o, hD, c0, c1, c2, c3⟩ := rw_cells h.out hx
      subst hD
      obtain ⟨⟨h1, h2⟩, ⟨h3, h4⟩, h5, h6⟩ := hrow.out r (List.mem_of_getElem? hx)
      obtain ⟨jf, hjf⟩ : ∃ j : Nat, r.fr = j := ⟨r.fr.toNat, by omega⟩
      obtain ⟨jt, hjt⟩ : ∃ j : Nat, r.too = j := ⟨r.too.toNat, by omega⟩
      obtain ⟨ja, hja⟩ : ∃ j : Nat, r.at_ = j := ⟨r.at_.toNat, by omega⟩
      obtain ⟨bb, hbb⟩ : ∃ b, R[ja]? = some b := ⟨_, List.getElem?_eq_getElem (by have := hrl.out; omega)⟩
      obtain ⟨rg, ro, rcc, hRA, _, hE, hrc⟩ := hr.out.at' hbb
      have hE : rcc = [.bool bb] := hE
      subst hE
      subst hRA
      have e0 := hrc 0 _ rfl
      rw [Nat.add_zero, Nat.mul_one] at e0
      rw [hjf] at c0 h2
      rw [hjt] at c1 h4
      rw [hja] at c2 h6
      have kc : ∀ {p : Addr} {u : Value}, w.cell? p = some u → wr.cell? p = some u := fun {p u} hq => (HB.out.cell (p := p) (cell_lt hq)).trans hq
      replace c0 := kc c0
      replace c1 := kc c1
      replace c2 := kc c2
      replace c3 := kc c3
      replace e0 := kc e0
      obtain ⟨tf, htf⟩ : ∃ t, N jf = t := ⟨_, rfl⟩
      obtain ⟨tt, htt⟩ : ∃ t, N jt = t := ⟨_, rfl⟩
      obtain ⟨ta, hta⟩ : ∃ t, N ja = t := ⟨_, rfl⟩
      have d0 := kc (HNOW.out jf (by omega))
      have d1 := kc (HNOW.out jt (by omega))
      have d2 := kc (HNOW.out ja (by omega))
      rw [htf] at d0
      rw [htt] at d1
      rw [hta] at d2
      have hgl : g < wr.heap.size := cell_lt c0
      have hng : ng < wr.heap.size := cell_lt d0
      have hrg : rg < wr.heap.size := cell_lt e0
      have HX := lhid hx
      have HLE := lhid (trR_len rows R N k)
      have k3 : (k : Int) < rows.length := by omega
      have hwk : wrap64 ((k : Int) + 1) = (k : Int) + 1 := IntWalk.wrap64_in _ (by omega)
      have b1 : (jf : Int) < (n : Int) + 1 := by omega
      have b2 : (jt : Int) < (n : Int) + 1 := by omega
      have b3 : (ja : Int) < (n : Int) + 1 := by omega
      have HRK : Hid (rowK R N r = (decide (tf < tt) && bb)) := lhid (by unfold rowK; rw [hjf, hjt, hja]; simp [htf, htt, hbb])
      have HRN : Hid (rowN N r = ⟨tf, tt, ta, r.cls⟩) := lhid (by unfold rowN; rw [hjf, hjt, hja]; simp [htf, htt, hta])
      have HBA := lhid (HB.out.alloc HB.out.size (.cells #[.int .i64 jf, .int .i64 jt, .int .i64 ja, .string (tx r.cls)] 52))
      clear hx kc hbb hrc htf htt hta hjf hjt hja h1 h2 h3 h4 h5
      go_upto_region 5 with fail
      go_quiet (fail)
      generalize hwd : World.drewN _ _ = wd
      have HBD : Hid (Below w.heap.size w wd) := lhid (by rw [← hwd]; exact Below.drewN' HBA.out _)
      have hbw : Below wr.heap.size wr wd := by rw [← hwd]; exact Below.drewN' ((Below.refl _ _).alloc (Nat.le_refl _) _) _
      have HOD : Hid (OwR w wd w.heap.size (.slice A L.length q) L) := lhid (by obtain ⟨xs, h1, h2⟩ := HO.out; exact ⟨xs, own_below h1 hbw, h2⟩)
      have HRB : Hid (wd.heap[wr.heap.size]? = some (.cells #[.int .i64 jf, .int .i64 jt, .int .i64 ja, .string (tx r.cls)] 52 (0, 0))) := lhid (by rw [← hwd]; exact heap_alloc_new wr _)
      have r0 := heap_cell (i := 0) HRB.out rfl
      have r1 := heap_cell (i := 1) HRB.out rfl
      have r2 := heap_cell (i := 2) HRB.out rfl
      have r3 := heap_cell (i := 3) HRB.out rfl
      replace d2 := (hbw.cell (cell_lt d2)).trans d2
      replace e0 := (hbw.cell (cell_lt e0)).trans e0
      clear hwd d0 d1 c0 c1 c2 c3 hbw HBA hgl hng hrg
      by_cases hs : tf < tt
      · cases bb with
        | false =>
          have HL2 : Hid (L = trR rows R N (k + 1)) := lhid (by rw [trR_no HX.out (by rw [HRK.out]; simp)]; exact HL.out)
          have HO3 : Hid (OwR w wd w.heap.size (.slice A L.length q) L) := HOD
          go_wp2_with fail
          go_roundw
          case rel => exact ⟨L, A, q, k + 1, rfl, by go_num, by omega, HL2, HOD, HBD⟩
          case measure => simp [intOf]; omega
        | true =>
          have HL2 : Hid (L ++ [rowN N r] = trR rows R N (k + 1)) := lhid (by rw [trR_yes HX.out (by rw [HRK.out]; simp [hs]), HL.out])
          obtain ⟨xs, HXS⟩ : ∃ xs, Hid (wd.ownsRow w.heap.size 52 4 (.slice A L.length q) L.length xs ∧ RowsE 4 (RwE w) L xs) := by obtain ⟨xs, h1, h2⟩ := HOD.out; exact ⟨xs, lhid ⟨h1, h2⟩⟩
          have HWa : Hid ((wd.alloc (.cells #[.int .i64 tf, .int .i64 tt, .int .i64 ta, .string (tx r.cls)] 52)).drew.ownsRow w.heap.size 52 4 (.slice A L.length q) L.length xs) := lhid (own_of (HXS.out.1.alloc (.cells #[.int .i64 tf, .int .i64 tt, .int .i64 ta, .string (tx r.cls)] 52)) (w' := (wd.alloc (.cells #[.int .i64 tf, .int .i64 tt, .int .i64 ta, .string (tx r.cls)] 52)).drew) fun _ _ => rfl)
          have HNa : Hid ((wd.alloc (.cells #[.int .i64 tf, .int .i64 tt, .int .i64 ta, .string (tx r.cls)] 52)).drew.heap[wd.heap.size]? = some (.cells #[.int .i64 tf, .int .i64 tt, .int .i64 ta, .string (tx r.cls)] 52 (0, 0))) := lhid (heap_alloc_new wd _)
          have HBa : Hid (Below w.heap.size w (wd.alloc (.cells #[.int .i64 tf, .int .i64 tt, .int .i64 ta, .string (tx r.cls)] 52)).drew) := lhid (Below.drewN' (HBD.out.alloc HBD.out.size (.cells #[.int .i64 tf, .int .i64 tt, .int .i64 ta, .string (tx r.cls)] 52)) 1)
          have H1C : Hid (∀ u ∈ ([.int .i64 tf, .int .i64 tt, .int .i64 ta, .string (tx r.cls)] : List Value), u.oneCell' = true) := lhid (by intro u hu; simp at hu; rcases hu with rfl | rfl | rfl | rfl <;> simp [Value.oneCell'])
          have hle := HLE.out
          rw [← HL.out] at hle
          have h63 : L.length + 1 ≤ maxLen := by unfold maxLen; omega
          have hby : (L.length + 1) * 40 ≤ 140737488355328 := by have := hcl.out; omega
          go_upto_region 7 with fail
          go_region_law (refine step_append_lies _ rfl (.tmp 38) (.tmp 49) 25 rfl w.heap.size 52 i0 (.agg #[.int .i64 0, .int .i64 0, .int .i64 0, .string ⟨#[]⟩]) 4 40 Try.underlying25 hi0 hz0 hz1 hz2 rfl (by decide) (.slice A L.length q) L.length xs rfl HWa.out _ 1 _ [.int .i64 tf, .int .i64 tt, .int .i64 ta, .string (tx r.cls)] rfl rfl (World.news_of_block HNa.out) H1C.out (by decide) h63 hby HBa.out.size _ rfl ?_
                         intro g' cap w6 hown hgrow hat hlt6)
          all_goals
            have HO3 : Hid (OwR w w6 w.heap.size (.slice (some ⟨g', 0, none⟩) (L ++ [rowN N r]).length cap) (L ++ [rowN N r])) := lhid ⟨_, by rw [List.length_append]; exact hown, HXS.out.2.app (rowsE_one (a := rowN N r) (by rw [HRN.out]; rfl) rfl)⟩
            have HB3 := lhid (Below.grown HBa.out hgrow HBa.out.size (fun r e => own_lt HXS.out.1 r e))
            obtain ⟨U, hU⟩ : ∃ U, L ++ [rowN N r] = U := ⟨_, rfl⟩
            have hUl : L.length + 1 = U.length := by rw [← hU]; simp
            rw [hU] at HO3 HL2
            clear hown hgrow hat hlt6 hU hle r0 r1 r2 r3 d2 e0
            go_wp2
            go_roundw
            case rel => exact ⟨U, some ⟨g', 0, none⟩, cap, k + 1, by first | rfl | rw [hUl], by go_num, by omega, HL2, HO3, HB3⟩
            case measure => simp [intOf]; omega
      · have HL2 : Hid (L = trR rows R N (k + 1)) := lhid (by rw [trR_no HX.out (by rw [HRK.out]; simp [hs])]; exact HL.out)
        have HO3 : Hid (OwR w wd w.heap.size (.slice A L.length q) L) := HOD
        go_wp2_with fail
        go_roundw
        case rel => exact ⟨L, A, q, k + 1, rfl, by go_num, by omega, HL2, HOD, HBD⟩
        case measure => simp [intOf]; omega
    · have k3 : ¬ (k : Int) < rows.length := by omega
      have hke : k = rows.length := by omega
      have HR : Hid (L = TL) := lhid (by rw [HL.out, hke]; exact HTL.out)
      clear hke
      go_wp2_with fail
      go_ret
      refine ⟨_, rfl, ?_, HB.out⟩
      rw [← HR.out]
      exact HO.out
end Go.Proofs.Ytbkeneadoccodaa
