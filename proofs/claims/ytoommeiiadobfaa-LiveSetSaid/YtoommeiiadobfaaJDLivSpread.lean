/- Which registers are live: the program's ahead. -/
import Derived.Test.YtoommeiiadobfaaJDLivMarks
import Derived.Test.YtoommeiiadobfaaDM15
import Derived.Test.YtoommeiiadobfaaJDRegionInvH
namespace Go.Proofs.Ytoommeiiadobfaa
open Go.RowKit Go
attribute [local go_sem] Oper.semAt_some
set_option linter.unusedVariables false
set_option linter.unusedSimpArgs false
structure AhL (wd : World) (G R n k : Nat) (LW : LwN) (m wm : Nat → Mk) (T : List Nat) (wr : World) : Prop where
 ch : Ch (fun b => b = G ∨ b = R) wd wr
 mm : Mks wr G n m
 mr : Mks wr R n wm
 us : ∀ j, j < k → m j = LW.us j
 ws : ∀ j, j < k → wm j = LW.wr j
 nd : T.Nodup
 le : T.length ≤ k
 lt : ∀ j ∈ T, j < k
 ze : ∀ j, j < k → j ∉ T → m j = 0
theorem blk_ne' {w : World} {g n k : Nat} {m : Nat → Mk} {c : Array Value} (h : Mks w g n m) (hk : w.heap[k]? = some (.cells c 50 (0, 0))) : k ≠ g := fun e => h.netb hk e.symm
section
variable {wd wr w' : World} {G R n k : Nat} {LW : LwN} {m wm : Nat → Mk} {T : List Nat} {U1 U2 : Mk}
theorem AhL.next (h : AhL wd G R n k LW m wm T wr) (hc : Ch (fun b => b = G ∨ b = R) wr w') (hm : Mks w' G n (fun j => if j = k then U2 else m j)) (hr : Mks w' R n (fun j => if j = k then U1 else wm j)) (h2 : LW.us k = U2) (h1 : LW.wr k = U1) (hz : U2 = 0) : AhL wd G R n (k + 1) LW (fun j => if j = k then U2 else m j) (fun j => if j = k then U1 else wm j) T w' where
 ch := h.ch.trans hc (fun _ _ e => e)
 mm := hm
 mr := hr
 us j hj := by
  by_cases e : j = k
  ·simp only [e, if_true, h2]
  ·simp only [e, if_false]; exact h.us j (by omega)
 ws j hj := by
  by_cases e : j = k
  ·simp only [e, if_true, h1]
  ·simp only [e, if_false]; exact h.ws j (by omega)
 nd := h.nd
 le := by have := h.le; omega
 lt j hj := by have := h.lt j hj; omega
 ze j hj hn := by
  by_cases e : j = k
  ·simp only [e, if_true, hz]
  ·simp only [e, if_false]; exact h.ze j (by omega) hn
theorem AhL.push (h : AhL wd G R n k LW m wm T wr) (hc : Ch (fun b => b = G ∨ b = R) wd w') (hm : Mks w' G n (fun j => if j = k then U2 else m j)) (hr : Mks w' R n (fun j => if j = k then U1 else wm j)) (h2 : LW.us k = U2) (h1 : LW.wr k = U1) : AhL wd G R n (k + 1) LW (fun j => if j = k then U2 else m j) (fun j => if j = k then U1 else wm j) (T ++ [k]) w' where
 ch := hc
 mm := hm
 mr := hr
 us j hj := by
  by_cases e : j = k
  ·simp only [e, if_true, h2]
  ·simp only [e, if_false]; exact h.us j (by omega)
 ws j hj := by
  by_cases e : j = k
  ·simp only [e, if_true, h1]
  ·simp only [e, if_false]; exact h.ws j (by omega)
 nd := by
  rw [List.nodup_append]
  refine ⟨h.nd, by simp, fun a ha b hb e => ?_⟩
  have h1 := List.mem_singleton.1 hb
  have h2 := h.lt a ha
  omega
 le := by have := h.le; simp; omega
 lt j hj := by
  rcases List.mem_append.1 hj with h1 | h1
  ·have := h.lt j h1; omega
  ·have := List.mem_singleton.1 h1; omega
 ze j hj hn := by
  have e : j ≠ k := fun e => hn (by simp [e])
  simp only [e, if_false]
  exact h.ze j (by omega) (fun h1 => hn (List.mem_append_left _ h1))
end
set_option maxHeartbeats 32000000 in
set_option maxRecDepth 100000 in
theorem spread_l (n S F : Nat) (Us Ps Th Cs : List (List Int)) (Ds : List Int) (UA DA NA PA TA CA : Option Addr) (uc dc nc pc tc cc : Nat) (w : World) (hU : Hid (RdX Tru 1 (LsE Tru) w (.slice UA n uc) Us)) (hD : Hid (RdX Tru 1 NuE w (.slice DA n dc) Ds)) (hP : Hid (RdX Tru 1 (LsE Tru) w (.slice PA n pc) Ps)) (hT : Hid (RdX Tru 1 (LsE Tru) w (.slice TA S tc) Th)) (hCs : Hid (RdX Tru 1 (LsE Tru) w (.slice CA n cc) Cs))
  (hlen : Hid (Us.length = n ∧ Ds.length = n ∧ Ps.length = n ∧ Th.length = S ∧ Cs.length = n)) (hb : Hid (n * 2048 ≤ 140737488355328 ∧ S * 1024 ≤ 140737488355328 ∧ F ≤ 1099511627776)) (hel : Hid ((∀ l ∈ Ps, ∀ z ∈ l, ∃ j : Nat, z = j ∧ j < n) ∧ (∀ l ∈ Th, ∀ z ∈ l, ∃ j : Nat, z = j ∧ j < n) ∧ (∀ l ∈ Cs, ∀ z ∈ l, ∃ s : Nat, z = s ∧ s < S) ∧ (∀ l ∈ Us, ∀ z ∈ l, I64 z) ∧ (∀ z ∈ Ds, I64 z))) :
  Calls Try.prog 24 #[.agg #[.slice UA n uc, .slice DA n dc, .slice NA n nc, .slice PA n pc, .slice TA S tc, .slice CA n cc], .int .i64 (F : Int)] w fun e w' => ∃ (g : Nat) (m : Nat → Mk), e = .returned (.slice (some ⟨g, 0, none⟩) n n) ∧ w.heap.size ≤ g ∧ Mks w' g n m ∧ (∀ b i, i < n → ((m i).getLsbD b = true ↔ Cb (lwN n F Us Ds Ps Th Cs) b i)) ∧ Below w.heap.size w w' := by
 have hb1 := hb.out.1
 have hb2 := hb.out.2.1
 have hmk1 := make_sets n (by omega)
 have hmk2 := make_sets S (by omega)
 obtain ⟨LW, hLW⟩ : ∃ LW, lwN n F Us Ds Ps Th Cs = LW := ⟨_, rfl⟩
 rw [hLW]
 have HLW := lhid hLW
 have HLN : Hid (LW.n = n) := lhid (by rw [← hLW]; rfl)
 clear hLW
 go_enter Try.func24, Try.ntmps24
 go_upto_region 1 with fail
 generalize hw2 : World.alloc _ _ = w2
 obtain ⟨WX, hWX⟩ : ∃ WX, WX = w.heap.size := ⟨_, rfl⟩
 rw [← hWX]
 have hb2w : Below w.heap.size w w2 := by rw [← hw2]; exact (Below.refl _ _).alloc (Nat.le_refl _) _
 have hX2 : w2.heap[WX]? = some (.cells #[.slice UA n uc, .slice DA n dc, .slice NA n nc, .slice PA n pc, .slice TA S tc, .slice CA n cc] 45 (0, 0)) := by rw [← hw2, hWX]; exact heap_alloc_new w _
 have hs2 : w2.heap.size = WX + 1 := by rw [← hw2, hWX]; simp
 have HFK : Hid (∀ w', Below w2.heap.size w2 w' → w'.cell? ⟨WX, 0, none⟩ = some (.slice UA n uc)) := lhid fun w' hb => heap_cell (heap_keep hX2 hb) rfl
 have HX2 := lhid hX2
 have HB2 := lhid hb2w
 have HS2 : Hid (w2.heap.size = WX + 1 ∧ WX = w.heap.size) := lhid ⟨hs2, hWX⟩
 clear hw2 hb2w hX2 hs2 hWX
 obtain ⟨wz, hwz⟩ : ∃ wz, wz = w2.drew := ⟨_, rfl⟩
 have hbz : Below w2.heap.size w2 wz := by rw [hwz]; exact Below.drew' (Below.refl _ _)
 refine wp_region_held_drew (S := fun w' => Below w2.heap.size w2 w') (by kernel_rfl) (by rw [← hwz]; exact hbz) ?_
 intro hS0
 rw [← hwz] at hS0 ⊢
 clear hwz
 refine wpAnyH_take (i := 0) (v := ?tv1) rfl (by kernel_rfl) (by kernel_rfl) (by kernel_rfl) (fun _ _ _ h => h) (Or.inl ⟨by rfl, ?ty1⟩) hS0 ?tr1
 case ty1 => (intro w' hw'; have y0 := HFK.out w' hw'; go_simp; try with_reducible rfl)
 try simp only [List.getElem_toArray, List.getElem_cons_zero, List.getElem_cons_succ]
 try simp only [Act.put, List.setIfInBounds_toArray, List.set_cons_zero, List.set_cons_succ]
 refine wpAnyH_take (i := 1) (v := ?tv2) rfl (by kernel_rfl) (by kernel_rfl) (by kernel_rfl) (fun _ _ _ h => h) (Or.inl ⟨by rfl, ?ty2⟩) hS0 ?tr2
 case ty2 => (intro w' hw'; have y0 := HFK.out w' hw'; go_simp; try with_reducible rfl)
 try simp only [List.getElem_toArray, List.getElem_cons_zero, List.getElem_cons_succ]
 try simp only [Act.put, List.setIfInBounds_toArray, List.set_cons_zero, List.set_cons_succ]
 refine wpAnyH_take (i := 2) (v := ?tv3) rfl (by kernel_rfl) (by kernel_rfl) (by kernel_rfl) (fun _ _ _ h => h) (Or.inl ⟨by rfl, ?ty3⟩) hS0 ?tr3
 case ty3 => (intro w' hw'; have y0 := HFK.out w' hw'; go_simp; try with_reducible rfl)
 try simp only [List.getElem_toArray, List.getElem_cons_zero, List.getElem_cons_succ]
 try simp only [Act.put, List.setIfInBounds_toArray, List.set_cons_zero, List.set_cons_succ]
 refine wpAnyH_take (i := 4) (v := ?tv4) rfl (by kernel_rfl) (by kernel_rfl) (by kernel_rfl) (fun _ _ _ h => h) (Or.inl ⟨by rfl, ?ty4⟩) hS0 ?tr4
 case ty4 => (intro w' hw'; have y0 := HFK.out w' hw'; go_simp; try with_reducible rfl)
 try simp only [List.getElem_toArray, List.getElem_cons_zero, List.getElem_cons_succ]
 try simp only [Act.put, List.setIfInBounds_toArray, List.set_cons_zero, List.set_cons_succ]
 refine wpAnyH_take (i := 5) (v := ?tv5) rfl (by kernel_rfl) (by kernel_rfl) (by kernel_rfl) (fun _ _ _ h => h) (Or.inl ⟨by rfl, ?ty5⟩) hS0 ?tr5
 case ty5 => (intro w' hw'; have y0 := HFK.out w' hw'; go_simp; try with_reducible rfl)
 try simp only [List.getElem_toArray, List.getElem_cons_zero, List.getElem_cons_succ]
 try simp only [Act.put, List.setIfInBounds_toArray, List.set_cons_zero, List.set_cons_succ]
 refine wpAnyH_take (i := 6) (v := ?tv6) rfl (by kernel_rfl) (by kernel_rfl) (by kernel_rfl) (fun _ _ _ h => h) (Or.inl ⟨by rfl, ?ty6⟩) hS0 ?tr6
 case ty6 => (intro w' hw'; have y0 := HFK.out w' hw'; go_simp; try with_reducible rfl)
 try simp only [List.getElem_toArray, List.getElem_cons_zero, List.getElem_cons_succ]
 try simp only [Act.put, List.setIfInBounds_toArray, List.set_cons_zero, List.set_cons_succ]
 have HS0 := lhid hS0
 have HB0 : Hid (∀ w' : World, Below w2.heap.size w2 w' → w2.heap.size ≤ w'.heap.size) := lhid (fun w' hb => hb.size)
 clear hS0 hbz
 refine wpAnyH_inv (fun listed a wq => ∃ (l3 l7 l8 l9 l10 l11 : Bool) (g3 g7 g8 g9 : Nat), listed = #[true, true, true, l3, true, true, true, l7, l8, l9, l10, l11] ∧ a = { tmps := #[.agg #[.slice UA n uc, .slice DA n dc, .slice NA n nc, .slice PA n pc, .slice TA S tc, .slice CA n cc], .int .i64 (F : Int), .pointer (some ⟨WX, 0, none⟩), undef, .slice none 0 0, bif l8 then (.pointer (some ⟨g8, 0, none⟩)) else undef, bif l9 then (.pointer (some ⟨g9, 0, none⟩)) else undef, undef, undef, undef, .pointer (some ⟨WX, 0, none⟩), .slice UA n uc, .int .i64 (n : Int), bif l3 then (.slice (some ⟨g3, 0, none⟩) n n) else undef, .pointer (some ⟨WX, 0, none⟩), .slice UA n uc, .int .i64 (n : Int), bif l7 then (.slice (some ⟨g7, 0, none⟩) n n) else undef, undef, undef, undef, undef, undef, undef, undef, undef, undef, undef, undef, undef, undef, undef, undef, undef, undef, undef, undef, undef, undef, undef, undef, undef, undef, undef, undef, undef, undef, undef, undef, undef, undef, undef, undef, undef, undef, undef, undef, undef, undef, undef, undef, undef, undef, undef], defers := [] } ∧ Hid (AhI w2.heap.size n w2 wq l3 l7 l8 l9 l10 l11 g3 g7 g8 g9)) ?hS ?hstep ?hend _ _ _ _ (by rfl) (by decide) ⟨false, false, false, false, false, false, 0, 0, 0, 0, rfl, rfl, lhid (AhI.begin _ _ _ _ HS0.out)⟩
 case hS =>
  rintro listed a wq ⟨l3, l7, l8, l9, l10, l11, g3, g7, g8, g9, rfl, rfl, HI⟩
  exact HI.out.bel
 case hend =>
  rintro listed a wq hs hr ⟨l3, l7, l8, l9, l10, l11, g3, g7, g8, g9, rfl, rfl, HI⟩
  have nr : ∀ j, j ∉ Region.ready .any _ #[true, true, true, l3, true, true, true, l7, l8, l9, l10, l11] := fun j hj => by rw [hr] at hj; cases hj
  clear hr
  have e3 : l3 = true := by cases l3 with
   | true => rfl
   | false => exact absurd (mem_ready.2 ⟨rfl, _, rfl, by simp [Region.binds]⟩) (nr 3)
  subst e3
  have e7 : l7 = true := by cases l7 with
   | true => rfl
   | false => exact absurd (mem_ready.2 ⟨rfl, _, rfl, by simp [Region.binds]⟩) (nr 7)
  subst e7
  have e8 : l8 = true := by cases l8 with
   | true => rfl
   | false => exact absurd (mem_ready.2 ⟨rfl, _, rfl, by simp [Region.binds]⟩) (nr 8)
  subst e8
  have e9 : l9 = true := by cases l9 with
   | true => rfl
   | false => exact absurd (mem_ready.2 ⟨rfl, _, rfl, by simp [Region.binds]⟩) (nr 9)
  subst e9
  have e10 : l10 = true := by cases l10 with
   | true => rfl
   | false => exact absurd (mem_ready.2 ⟨rfl, _, rfl, by simp [Region.binds]⟩) (nr 10)
  subst e10
  have e11 : l11 = true := by cases l11 with
   | true => rfl
   | false => exact absurd (mem_ready.2 ⟨rfl, _, rfl, by simp [Region.binds]⟩) (nr 11)
  subst e11
  clear nr hs
  have HA := HI.out
  have HWX : Hid (∀ w' : World, Below w2.heap.size w2 w' → w'.heap[WX]? = some (.cells #[.slice UA n uc, .slice DA n dc, .slice NA n nc, .slice PA n pc, .slice TA S tc, .slice CA n cc] 45 (0, 0))) := lhid (fun w' hb => heap_keep HX2.out hb)
  have q4 := heap_cell (i := 4) (HWX.out wq HA.bel) rfl
  have HNE : Hid (g3 ≠ g7) := lhid (HA.ne rfl rfl)
  have HGE : Hid (w2.heap.size ≤ g3 ∧ w2.heap.size ≤ g7) := lhid ⟨(HA.m3 rfl).1, (HA.m7 rfl).1⟩
  have HMM := lhid (HA.m3 rfl).2
  have HMR := lhid (HA.m7 rfl).2
  have HLX : Hid (wq.heap[g8]? = some (.cells #[.slice (some ⟨g3, 0, none⟩) n n] 50 (0, 0))) := lhid (HA.b8 rfl).2
  have HRX : Hid (wq.heap[g9]? = some (.cells #[.slice (some ⟨g7, 0, none⟩) n n] 50 (0, 0))) := lhid (HA.b9 rfl).2
  have HBQ := lhid HA.bel
  obtain ⟨TW, hTW⟩ : ∃ TW, TW = wq.heap.size := ⟨_, rfl⟩
  clear HA HI HFK HS0
  go_upto_region 3 with fail
  generalize hW : World.alloc _ _ = wd
  try rw [← hTW]
  have hbd : Below wq.heap.size wq wd := by rw [← hW]; exact ((Below.refl _ _).alloc (Nat.le_refl _) _).alloc (by simp) _
  have hsd : wd.heap.size = TW + 2 := by rw [← hW, hTW]; simp
  have hTd : Mks wd TW S (fun _ => 0) := by rw [← hW, hTW]; exact (Mks.made wq S).below ((Below.refl _ _).alloc (Nat.le_refl _) _)
  have hXd : wd.heap[TW + 1]? = some (.cells #[.slice (some ⟨TW, 0, none⟩) S S] 50 (0, 0)) := by rw [← hW, hTW]; exact heap_alloc_new' _ _ _ (by simp)
  have HMd : Hid (Mks wd g3 n (fun _ => 0)) := lhid (HMM.out.below hbd)
  have HRd : Hid (Mks wd g7 n (fun _ => 0)) := lhid (HMR.out.below hbd)
  have HTd := lhid hTd
  have HLd : Hid (wd.heap[WX]? = some (.cells #[.slice UA n uc, .slice DA n dc, .slice NA n nc, .slice PA n pc, .slice TA S tc, .slice CA n cc] 45 (0, 0)) ∧ wd.heap[g8]? = some (.cells #[.slice (some ⟨g3, 0, none⟩) n n] 50 (0, 0)) ∧ wd.heap[g9]? = some (.cells #[.slice (some ⟨g7, 0, none⟩) n n] 50 (0, 0)) ∧ wd.heap[TW + 1]? = some (.cells #[.slice (some ⟨TW, 0, none⟩) S S] 50 (0, 0))) := lhid ⟨heap_keep (HWX.out wq HBQ.out) hbd, heap_keep HLX.out hbd, heap_keep HRX.out hbd, hXd⟩
  have HNUM : Hid (WX = w.heap.size ∧ w2.heap.size = WX + 1 ∧ w2.heap.size ≤ TW ∧ g3 < TW ∧ g7 < TW ∧ wd.heap.size = TW + 2) := lhid (by have h1 := HS2.out; have h2 := HBQ.out.size; have h3 := HMM.out.lt; have h4 := HMR.out.lt; omega)
  have HBD : Hid (Below w.heap.size w wd) := lhid ((HB2.out.trans (HBQ.out.mono (by have := HNUM.out; omega))).trans (hbd.mono (by have := HNUM.out; omega)))
  clear hW hbd hsd hTd hXd q4 HMM HMR HLX HRX HBQ hTW hmk1 hmk2 HWX HX2 HB2
  have HK : Hid (∀ w' : World, Ch (fun b => b = g3 ∨ b = g7) wd w' → (w'.heap[WX]? = some (.cells #[.slice UA n uc, .slice DA n dc, .slice NA n nc, .slice PA n pc, .slice TA S tc, .slice CA n cc] 45 (0, 0)) ∧ w'.heap[g8]? = some (.cells #[.slice (some ⟨g3, 0, none⟩) n n] 50 (0, 0)) ∧ w'.heap[g9]? = some (.cells #[.slice (some ⟨g7, 0, none⟩) n n] 50 (0, 0)) ∧ w'.heap[TW + 1]? = some (.cells #[.slice (some ⟨TW, 0, none⟩) S S] 50 (0, 0))) ∧ Below w.heap.size w w') := lhid (fun w' hc => by
   obtain ⟨d1, d2, d3, d4⟩ := HLd.out
   have hn := HNUM.out
   have e2 := blk_ne' HMd.out d2
   have e3 := blk_ne' HRd.out d2
   have e4 := blk_ne' HMd.out d3
   have e5 := blk_ne' HRd.out d3
   have hg := HGE.out
   exact ⟨⟨hc.keep d1 (by omega), hc.keep d2 (by omega), hc.keep d3 (by omega), hc.keep d4 (by omega)⟩, HBD.out.trans (hc.to (by omega) (fun b e => by rcases e with e | e <;> omega))⟩)
  have q0 := heap_cell (i := 0) HLd.out.1 rfl
  go_wp2_with fail
  clear q0
  have HL0 : Hid (AhL wd g3 g7 n 0 LW (fun _ => 0) (fun _ => 0) [] wd) := lhid ⟨Ch.refl _ _, HMd.out, HRd.out, fun j hj => (by omega), fun j hj => (by omega), by simp, by simp, fun j hj => (by cases hj), fun j hj => (by omega)⟩
  go_loopg [8, 25] n (fun g v s wr => ∃ (k : Nat) (m wm : Nat → Mk) (T : List Nat) (A : Option Addr) (c : Nat), g = n - k ∧ v = .slice A T.length c ∧ s = .int .i64 k ∧ k ≤ n ∧ Hid (AhL wd g3 g7 n k LW m wm T wr) ∧ Hid (OwN wr wd.heap.size (.slice A T.length c) (T.map fun i : Nat => (i : Int))))
  case atStart => exact ⟨0, fun _ => 0, fun _ => 0, [], none, 0, rfl, rfl, rfl, Nat.zero_le _, HL0, lhid (World.ownsRow_nil _ _ _ _)⟩
  case round =>
   clear HL0
   obtain ⟨k, m, wm, T, A, c, rfl, rfl, rfl, hk, HL, HO⟩ := hrel
   by_cases hlt : k < n
   ·as_aux_lemma =>
     have k3 : (k : Int) < n := by omega
     have hwk : wrap64 ((k : Int) + 1) = ((k + 1 : Nat) : Int) := by rw [IntWalk.wrap64_in _ (by omega)]; omega
     have HKN : Hid (k < n ∧ n - (k + 1) < n - k) := lhid (by omega)
     obtain ⟨lu, hlu⟩ : ∃ l, Us[k]? = some l := ⟨_, List.getElem?_eq_getElem (by have := hlen.out; omega)⟩
     obtain ⟨d, hd⟩ : ∃ d, Ds[k]? = some d := ⟨_, List.getElem?_eq_getElem (by have := hlen.out; omega)⟩
     obtain ⟨gd, od, hDA, cd⟩ := nu_cell hD.out hd
     subst hDA
     obtain ⟨gu, ou, UA2, uc2, hUA, cu, hru⟩ := ls_cell hU.out hlu
     subst hUA
     have HRU := lhid hru
     have HKB : Hid (∀ w' : World, Ch (fun b => b = g3 ∨ b = g7) wr w' → Ch (fun b => b = g3 ∨ b = g7) wd w') := lhid (fun w' hc => HL.out.ch.trans hc (fun _ _ e => e))
     have HCELL : Hid (∀ w' : World, Ch (fun b => b = g3 ∨ b = g7) wr w' → w'.cell? ⟨WX, 0, none⟩ = some (.slice (some ⟨gu, ou, none⟩) n uc) ∧ w'.cell? ⟨WX, 1, none⟩ = some (.slice (some ⟨gd, od, none⟩) n dc) ∧ w'.cell? ⟨g8, 0, none⟩ = some (.slice (some ⟨g3, 0, none⟩) n n) ∧ w'.cell? ⟨g9, 0, none⟩ = some (.slice (some ⟨g7, 0, none⟩) n n) ∧ w'.cell? ⟨gu, ou + k, none⟩ = some (.slice UA2 lu.length uc2) ∧ w'.cell? ⟨gd, od + k, none⟩ = some (.int .i64 d)) := lhid (fun w' hc => by
      obtain ⟨⟨d1, d2, d3, _⟩, hb⟩ := HK.out w' (HKB.out w' hc)
      exact ⟨heap_cell (i := 0) d1 rfl, heap_cell (i := 1) d1 rfl, heap_cell (i := 0) d2 rfl, heap_cell (i := 0) d3 rfl, (hb.cell (cell_lt cu)).trans cu, (hb.cell (cell_lt cd)).trans cd⟩)
     have HBW : Hid (∀ w' : World, Ch (fun b => b = g3 ∨ b = g7) wr w' → Below w.heap.size w w') := lhid (fun w' hc => (HK.out w' (HKB.out w' hc)).2)
     have hU1 : regM F [d] = LW.wr k := by rw [← HLW.out]; show _ = regM F [Ds.getD k 0]; rw [getD_of hd]
     have hU2 : regM F lu = LW.us k := by rw [← HLW.out]; show _ = regM F (Us.getD k []); rw [getD_of hlu]
     obtain ⟨U1, hu1⟩ : ∃ U1, LW.wr k = U1 := ⟨_, rfl⟩
     obtain ⟨U2, hu2⟩ : ∃ U2, LW.us k = U2 := ⟨_, rfl⟩
     rw [hu1] at hU1
     rw [hu2] at hU2
     have HU1 := lhid hU1
     have HU2 := lhid hU2
     have HUW := lhid hu1
     have HUU := lhid hu2
     have HDI : Hid (∀ r ∈ [d], I64 r) := lhid (fun r hr => by rw [List.mem_singleton.1 hr]; exact hel.out.2.2.2.2 d (List.mem_of_getElem? hd))
     have HUI : Hid (∀ r ∈ lu, I64 r) := lhid (hel.out.2.2.2.1 lu (List.mem_of_getElem? hlu))
     have HFB : Hid (F ≤ 1099511627776) := lhid hb.out.2.2
     have HGL : Hid (g3 ≠ g7) := HNE
     clear hlu hd hU1 hU2 hu1 hu2 hru cu cd
     go_upto_region 7 with fail
     obtain ⟨wz, hwz⟩ : ∃ wz, wz = wr.drew := ⟨_, rfl⟩
     have hcz : Ch (fun b => b = g3 ∨ b = g7) wr wz := by rw [hwz]; exact (Ch.refl _ _).drew
     have HMZ := lhid ((HL.out.mm).below (w' := wz) (by rw [hwz]; exact bel_drew (Below.refl _ _)))
     have HRZ := lhid ((HL.out.mr).below (w' := wz) (by rw [hwz]; exact bel_drew (Below.refl _ _)))
     refine wp_region_held_drew (S := fun w' => Ch (fun b => b = g3 ∨ b = g7) wr w') (by kernel_rfl) (by rw [← hwz]; exact hcz) ?_
     intro hS0
     rw [← hwz] at hS0 ⊢
     clear hwz hcz
     refine wpAnyH_take (i := 0) (v := ?tv7) rfl (by kernel_rfl) (by kernel_rfl) (by kernel_rfl) (fun _ _ _ h => h) (Or.inl ⟨by rfl, ?ty7⟩) hS0 ?tr7
     case ty7 => (intro w' hw'; obtain ⟨y0, y1, y2, y3, y4, y5⟩ := HCELL.out w' hw'; go_simp; try with_reducible rfl)
     try simp only [List.getElem_toArray, List.getElem_cons_zero, List.getElem_cons_succ]
     try simp only [Act.put, List.setIfInBounds_toArray, List.set_cons_zero, List.set_cons_succ]
     refine wpAnyH_take (i := 1) (v := ?tv8) rfl (by kernel_rfl) (by kernel_rfl) (by kernel_rfl) (fun _ _ _ h => h) (Or.inl ⟨by rfl, ?ty8⟩) hS0 ?tr8
     case ty8 => (intro w' hw'; obtain ⟨y0, y1, y2, y3, y4, y5⟩ := HCELL.out w' hw'; go_simp; try with_reducible rfl)
     try simp only [List.getElem_toArray, List.getElem_cons_zero, List.getElem_cons_succ]
     try simp only [Act.put, List.setIfInBounds_toArray, List.set_cons_zero, List.set_cons_succ]
     refine wpAnyH_take (i := 2) (v := ?tv9) rfl (by kernel_rfl) (by kernel_rfl) (by kernel_rfl) (fun _ _ _ h => h) (Or.inl ⟨by rfl, ?ty9⟩) hS0 ?tr9
     case ty9 => (intro w' hw'; obtain ⟨y0, y1, y2, y3, y4, y5⟩ := HCELL.out w' hw'; go_simp; try with_reducible rfl)
     try simp only [List.getElem_toArray, List.getElem_cons_zero, List.getElem_cons_succ]
     try simp only [Act.put, List.setIfInBounds_toArray, List.set_cons_zero, List.set_cons_succ]
     refine wpAnyH_take (i := 3) (v := ?tv10) rfl (by kernel_rfl) (by kernel_rfl) (by kernel_rfl) (fun _ _ _ h => h) (Or.inl ⟨by rfl, ?ty10⟩) hS0 ?tr10
     case ty10 => (intro w' hw'; obtain ⟨y0, y1, y2, y3, y4, y5⟩ := HCELL.out w' hw'; go_simp; try with_reducible rfl)
     try simp only [List.getElem_toArray, List.getElem_cons_zero, List.getElem_cons_succ]
     try simp only [Act.put, List.setIfInBounds_toArray, List.set_cons_zero, List.set_cons_succ]
     refine wpAnyH_take (i := 4) (v := ?tv11) rfl (by kernel_rfl) (by kernel_rfl) (by kernel_rfl) (fun _ _ _ h => h) (Or.inl ⟨by rfl, ?ty11⟩) hS0 ?tr11
     case ty11 => (intro w' hw'; obtain ⟨y0, y1, y2, y3, y4, y5⟩ := HCELL.out w' hw'; go_simp; try with_reducible rfl)
     try simp only [List.getElem_toArray, List.getElem_cons_zero, List.getElem_cons_succ]
     try simp only [Act.put, List.setIfInBounds_toArray, List.set_cons_zero, List.set_cons_succ]
     refine wpAnyH_take (i := 5) (v := ?tv12) rfl (by kernel_rfl) (by kernel_rfl) (by kernel_rfl) (fun _ _ _ h => h) (Or.inl ⟨by rfl, ?ty12⟩) hS0 ?tr12
     case ty12 => (intro w' hw'; obtain ⟨y0, y1, y2, y3, y4, y5⟩ := HCELL.out w' hw'; go_simp; try with_reducible rfl)
     try simp only [List.getElem_toArray, List.getElem_cons_zero, List.getElem_cons_succ]
     try simp only [Act.put, List.setIfInBounds_toArray, List.set_cons_zero, List.set_cons_succ]
     refine wpAnyH_take (i := 6) (v := ?tv13) rfl (by kernel_rfl) (by kernel_rfl) (by kernel_rfl) (fun _ _ _ h => h) (Or.inl ⟨by rfl, ?ty13⟩) hS0 ?tr13
     case ty13 => (intro w' hw'; obtain ⟨y0, y1, y2, y3, y4, y5⟩ := HCELL.out w' hw'; go_simp; try with_reducible rfl)
     try simp only [List.getElem_toArray, List.getElem_cons_zero, List.getElem_cons_succ]
     try simp only [Act.put, List.setIfInBounds_toArray, List.set_cons_zero, List.set_cons_succ]
     refine wpAnyH_take (i := 7) (v := ?tv14) rfl (by kernel_rfl) (by kernel_rfl) (by kernel_rfl) (fun _ _ _ h => h) (Or.inl ⟨by rfl, ?ty14⟩) hS0 ?tr14
     case ty14 => (intro w' hw'; obtain ⟨y0, y1, y2, y3, y4, y5⟩ := HCELL.out w' hw'; go_simp; try with_reducible rfl)
     try simp only [List.getElem_toArray, List.getElem_cons_zero, List.getElem_cons_succ]
     try simp only [Act.put, List.setIfInBounds_toArray, List.set_cons_zero, List.set_cons_succ]
     refine wpAnyH_take (i := 8) (v := ?tv15) rfl (by kernel_rfl) (by kernel_rfl) (by kernel_rfl) (fun _ _ _ h => h) (Or.inl ⟨by rfl, ?ty15⟩) hS0 ?tr15
     case ty15 => (intro w' hw'; obtain ⟨y0, y1, y2, y3, y4, y5⟩ := HCELL.out w' hw'; go_simp; try with_reducible rfl)
     try simp only [List.getElem_toArray, List.getElem_cons_zero, List.getElem_cons_succ]
     try simp only [Act.put, List.setIfInBounds_toArray, List.set_cons_zero, List.set_cons_succ]
     refine wpAnyH_take (i := 9) (v := ?tv16) rfl (by kernel_rfl) (by kernel_rfl) (by kernel_rfl) (fun _ _ _ h => h) (Or.inl ⟨by rfl, ?ty16⟩) hS0 ?tr16
     case ty16 => (intro w' hw'; obtain ⟨y0, y1, y2, y3, y4, y5⟩ := HCELL.out w' hw'; go_simp; try with_reducible rfl)
     try simp only [List.getElem_toArray, List.getElem_cons_zero, List.getElem_cons_succ]
     try simp only [Act.put, List.setIfInBounds_toArray, List.set_cons_zero, List.set_cons_succ]
     refine wpAnyH_take (i := 11) (v := ?tv17) rfl (by kernel_rfl) (by kernel_rfl) (by kernel_rfl) (fun _ _ _ h => h) (Or.inl ⟨by rfl, ?ty17⟩) hS0 ?tr17
     case ty17 => (intro w' hw'; obtain ⟨y0, y1, y2, y3, y4, y5⟩ := HCELL.out w' hw'; go_simp; try with_reducible rfl)
     try simp only [List.getElem_toArray, List.getElem_cons_zero, List.getElem_cons_succ]
     try simp only [Act.put, List.setIfInBounds_toArray, List.set_cons_zero, List.set_cons_succ]
     refine wpAnyH_take (i := 12) (v := ?tv18) rfl (by kernel_rfl) (by kernel_rfl) (by kernel_rfl) (fun _ _ _ h => h) (Or.inl ⟨by rfl, ?ty18⟩) hS0 ?tr18
     case ty18 => (intro w' hw'; obtain ⟨y0, y1, y2, y3, y4, y5⟩ := HCELL.out w' hw'; go_simp; try with_reducible rfl)
     try simp only [List.getElem_toArray, List.getElem_cons_zero, List.getElem_cons_succ]
     try simp only [Act.put, List.setIfInBounds_toArray, List.set_cons_zero, List.set_cons_succ]
     refine wpAnyH_take (i := 13) (v := ?tv19) rfl (by kernel_rfl) (by kernel_rfl) (by kernel_rfl) (fun _ _ _ h => h) (Or.inl ⟨by rfl, ?ty19⟩) hS0 ?tr19
     case ty19 => (intro w' hw'; obtain ⟨y0, y1, y2, y3, y4, y5⟩ := HCELL.out w' hw'; go_simp; try with_reducible rfl)
     try simp only [List.getElem_toArray, List.getElem_cons_zero, List.getElem_cons_succ]
     try simp only [Act.put, List.setIfInBounds_toArray, List.set_cons_zero, List.set_cons_succ]
     refine wpAnyH_take (i := 14) (v := ?tv20) rfl (by kernel_rfl) (by kernel_rfl) (by kernel_rfl) (fun _ _ _ h => h) (Or.inl ⟨by rfl, ?ty20⟩) hS0 ?tr20
     case ty20 => (intro w' hw'; obtain ⟨y0, y1, y2, y3, y4, y5⟩ := HCELL.out w' hw'; go_simp; try with_reducible rfl)
     try simp only [List.getElem_toArray, List.getElem_cons_zero, List.getElem_cons_succ]
     try simp only [Act.put, List.setIfInBounds_toArray, List.set_cons_zero, List.set_cons_succ]
     refine wpAnyH_take (i := 15) (v := ?tv21) rfl (by kernel_rfl) (by kernel_rfl) (by kernel_rfl) (fun _ _ _ h => h) (Or.inl ⟨by rfl, ?ty21⟩) hS0 ?tr21
     case ty21 => (intro w' hw'; obtain ⟨y0, y1, y2, y3, y4, y5⟩ := HCELL.out w' hw'; go_simp; try with_reducible rfl)
     try simp only [List.getElem_toArray, List.getElem_cons_zero, List.getElem_cons_succ]
     try simp only [Act.put, List.setIfInBounds_toArray, List.set_cons_zero, List.set_cons_succ]
     refine wpAnyH_take (i := 16) (v := ?tv22) rfl (by kernel_rfl) (by kernel_rfl) (by kernel_rfl) (fun _ _ _ h => h) (Or.inl ⟨by rfl, ?ty22⟩) hS0 ?tr22
     case ty22 => (intro w' hw'; obtain ⟨y0, y1, y2, y3, y4, y5⟩ := HCELL.out w' hw'; go_simp; try with_reducible rfl)
     try simp only [List.getElem_toArray, List.getElem_cons_zero, List.getElem_cons_succ]
     try simp only [Act.put, List.setIfInBounds_toArray, List.set_cons_zero, List.set_cons_succ]
     refine wpAnyH_ready (rs := [10, 17]) (by kernel_rfl) (by simp) ?_
     refine AllReadyH.cons rfl (fun K hK => ?_) (AllReadyH.cons rfl (fun K hK => ?_) AllReadyH.nil)
     ·go_simp
      refine (setOf_r F _ lu U2 wz (lhid (HRU.out.below (keptX_nu _) (HBW.out wz hS0))) HFB HUI HU2).mono ?_
      rintro e wy ⟨rfl, hww⟩
      rw [hww]
      clear hww
      dsimp only
      refine hK.out _ _ hS0 (fun _ => ?_)
      clear hK K
      try simp only [Act.put, List.setIfInBounds_toArray, List.set_cons_zero, List.set_cons_succ]
      refine wpAnyH_ready (rs := [17]) (by kernel_rfl) (by simp) ?_
      refine AllReadyH.cons rfl (fun K hK => ?_) AllReadyH.nil
      go_simp
      obtain ⟨w5, hw5⟩ : ∃ w5, w5 = wz.alloc (.cells #[.int .i64 d] 3) := ⟨_, rfl⟩
      obtain ⟨bz, hbz⟩ : ∃ bz, bz = wz.heap.size := ⟨_, rfl⟩
      have hS5 : Ch (fun b => b = g3 ∨ b = g7) wr w5 := by rw [hw5]; exact hS0.alloc _
      have HLT : Hid (RdX Tru 1 NuE w5 (.slice (some ⟨bz, 0, none⟩) 1 1) [d]) := lhid (by rw [hw5, hbz]; exact lit_rd wz d)
      have HM5 := lhid (HMZ.out.below (w' := w5) (by rw [hw5]; exact (Below.refl _ _).alloc (Nat.le_refl _) _))
      have HR5 := lhid (HRZ.out.below (w' := w5) (by rw [hw5]; exact (Below.refl _ _).alloc (Nat.le_refl _) _))
      rw [← hw5, ← hbz]
      clear hw5 hbz
      refine hK.out _ _ hS5 (fun _ => ?_)
      clear hK K
      try simp only [Act.put, List.setIfInBounds_toArray, List.set_cons_zero, List.set_cons_succ]
      refine wpAnyH_ready (rs := [18]) (by kernel_rfl) (by simp) ?_
      refine AllReadyH.cons rfl (fun K hK => ?_) AllReadyH.nil
      go_simp
      refine (setOf_r F _ [d] U1 w5 HLT HFB HDI HU1).mono ?_
      rintro e wy ⟨rfl, hww⟩
      rw [hww]
      clear hww
      dsimp only
      refine hK.out _ _ hS5 (fun _ => ?_)
      clear hK K
      try simp only [Act.put, List.setIfInBounds_toArray, List.set_cons_zero, List.set_cons_succ]
      refine wpAnyH_take (i := 19) (v := ?tv23) rfl (by kernel_rfl) (by kernel_rfl) (by kernel_rfl) (fun _ _ _ h => h) (Or.inl ⟨by rfl, ?ty23⟩) hS5 ?tr23
      case ty23 => (intro w' hw'; obtain ⟨y0, y1, y2, y3, y4, y5⟩ := HCELL.out w' hw'; go_simp; try with_reducible rfl)
      try simp only [List.getElem_toArray, List.getElem_cons_zero, List.getElem_cons_succ]
      try simp only [Act.put, List.setIfInBounds_toArray, List.set_cons_zero, List.set_cons_succ]
      have hyf := HM5.out.fz k
      have hyl := HM5.out.lt
      obtain hyc := HM5.out.at' HKN.out.1
      refine wpAnyH_ready (rs := [20]) (by kernel_rfl) (by simp) ?_
      refine AllReadyH.cons rfl (fun K hK => ?_) AllReadyH.nil
      go_simp
      obtain ⟨w6, hw6⟩ : ∃ w6, w6 = w5.setCell ⟨g3, k, none⟩ (.int .u64 (U2.toNat : Int)) := ⟨_, rfl⟩
      have hS6 : Ch (fun b => b = g3 ∨ b = g7) wr w6 := by rw [hw6]; exact hS5.set (p := ⟨g3, k, none⟩) (fun _ => .inl rfl) _
      have HM6 := lhid (HM5.out.put (p := k) U2)
      have HR6 := lhid (HR5.out.of (w' := w6) (by rw [hw6]; exact Below.heap_setCell _ _ _ _ (fun e => HNE.out e.symm)))
      rw [← hw6] at HM6 ⊢
      clear hw6 hyf hyl hyc
      refine hK.out _ _ hS6 (fun _ => ?_)
      clear hK K
      try simp only [Act.put, List.setIfInBounds_toArray, List.set_cons_zero, List.set_cons_succ]
      refine wpAnyH_take (i := 21) (v := ?tv24) rfl (by kernel_rfl) (by kernel_rfl) (by kernel_rfl) (fun _ _ _ h => h) (Or.inl ⟨by rfl, ?ty24⟩) hS6 ?tr24
      case ty24 => (intro w' hw'; obtain ⟨y0, y1, y2, y3, y4, y5⟩ := HCELL.out w' hw'; go_simp; try with_reducible rfl)
      try simp only [List.getElem_toArray, List.getElem_cons_zero, List.getElem_cons_succ]
      try simp only [Act.put, List.setIfInBounds_toArray, List.set_cons_zero, List.set_cons_succ]
      have hyf := HR6.out.fz k
      have hyl := HR6.out.lt
      obtain hyc := HR6.out.at' HKN.out.1
      refine wpAnyH_ready (rs := [22]) (by kernel_rfl) (by simp) ?_
      refine AllReadyH.cons rfl (fun K hK => ?_) AllReadyH.nil
      go_simp
      obtain ⟨w7, hw7⟩ : ∃ w7, w7 = w6.setCell ⟨g7, k, none⟩ (.int .u64 (U1.toNat : Int)) := ⟨_, rfl⟩
      have hS7 : Ch (fun b => b = g3 ∨ b = g7) wr w7 := by rw [hw7]; exact hS6.set (p := ⟨g7, k, none⟩) (fun _ => .inr rfl) _
      have HR7 := lhid (HR6.out.put (p := k) U1)
      have HM7 := lhid (HM6.out.of (w' := w7) (by rw [hw7]; exact Below.heap_setCell _ _ _ _ HNE.out))
      rw [← hw7] at HR7 ⊢
      clear hw7 hyf hyl hyc
      refine hK.out _ _ hS7 (fun _ => ?_)
      clear hK K
      try simp only [Act.put, List.setIfInBounds_toArray, List.set_cons_zero, List.set_cons_succ]
      refine wpAnyH_done (by kernel_rfl) ?_ _
      have HO7 : Hid (OwN w7 wd.heap.size (.slice A T.length c) (T.map fun i : Nat => (i : Int))) := lhid (own_ch HO.out hS7 (fun g hg e => by have h1 := own_lt HO.out g hg; have h2 := HNUM.out; rcases e with e | e <;> omega))
      have hc7 : w7.cell? ⟨g3, k, none⟩ = some (.int .u64 (U2.toNat : Int)) := by have h9 := HM7.out.at' HKN.out.1; rwa [if_pos rfl] at h9
      obtain ⟨_, _, hq8, _, _, _⟩ := HCELL.out w7 hS7
      have HS7 := lhid hS7
      clear hS0 hS5 hS6 hS7
      by_cases hz : U2 = 0
      ·have hz1 : ((U2.toNat : Int) != 0) = false := by rw [hz]; rfl
       have HNX : Hid (AhL wd g3 g7 n (k + 1) LW (fun j => if j = k then U2 else m j) (fun j => if j = k then U1 else wm j) T w7) := lhid (HL.out.next HS7.out HM7.out HR7.out HUU.out HUW.out hz)
       clear hz
       go_wp2_with fail
       go_roundg (n - (k + 1))
       case measure => exact HKN.out.2
       case rel => exact ⟨k + 1, _, _, T, A, c, rfl, rfl, by first | rfl | rw [hwk], HKN.out.1, HNX, HO7⟩
      ·have hz1 : ((U2.toNat : Int) != 0) = true := by
        rw [bne_iff_ne]
        intro e
        exact hz (by apply BitVec.eq_of_toNat_eq; simpa using e)
       obtain ⟨L, hL⟩ : ∃ L, (T.map fun i : Nat => (i : Int)) = L := ⟨_, rfl⟩
       have hLl : L.length = T.length := by rw [← hL]; simp
       have HLL : Hid (L.length = T.length ∧ (T.map fun i : Nat => (i : Int)) = L) := lhid ⟨hLl, hL⟩
       have HLEN : Hid ((L.length + 1) * 8 ≤ 140737488355328) := lhid (by have h1 := HL.out.le; have h2 := hb.out; have h3 := HKN.out; omega)
       rw [hL] at HO7
       rw [← hLl] at HO7 ⊢
       clear hL hLl
       go_wp2_with (at_builtin; refine wpList_append_fresh rfl (.tmp 54) (.tmp 56) rfl wd.heap.size (.slice A L.length c) L rfl (HO7.out.alloc _) ⟨w7.heap.size, 0, none⟩ 1 (k : Int) rfl ?cell ?big ?len ?_)
       case cell => exact heap_cell (i := 0) (heap_alloc_new w7 (.cells #[.int .i64 (k : Int)] 3)) rfl
       case big => have h1 := HS7.out.size; have h2 := HL.out.ch.size; simp; omega
       case len => exact HLEN.out
       intro v' w8 ho8 hg8 _
       obtain ⟨A8, c8, rfl⟩ := own_shape ho8
       have hg3 : w8.heap[g3]? = w7.heap[g3]? := (hg8.block g3 (by have := HM7.out.lt; simp; omega) (fun e => by have h1 := own_lt HO7.out g3 e.symm; have h2 := HNUM.out; omega)).trans (Below.heap_alloc _ _ _ HM7.out.lt)
       have hg7 : w8.heap[g7]? = w7.heap[g7]? := (hg8.block g7 (by have := HR7.out.lt; simp; omega) (fun e => by have h1 := own_lt HO7.out g7 e.symm; have h2 := HNUM.out; omega)).trans (Below.heap_alloc _ _ _ HR7.out.lt)
       have hc8 : Ch (fun b => b = g3 ∨ b = g7) wd w8 := ((HL.out.ch.trans HS7.out (fun _ _ e => e)).alloc _).grown hg8 (fun b e hb => absurd (own_lt HO7.out b e) (by omega))
       have HNX : Hid (AhL wd g3 g7 n (k + 1) LW (fun j => if j = k then U2 else m j) (fun j => if j = k then U1 else wm j) (T ++ [k]) w8) := lhid (HL.out.push hc8 (HM7.out.of hg3) (HR7.out.of hg7) HUU.out HUW.out)
       have HO8 : Hid (OwN w8 wd.heap.size (.slice A8 (T ++ [k]).length c8) ((T ++ [k]).map fun i : Nat => (i : Int))) := lhid (by
        rw [List.map_append, HLL.out.2]
        have h9 := ho8
        rw [show (T ++ [k]).length = (L ++ [(k : Int)]).length by simp [HLL.out.1]]
        exact h9)
       have HLN8 : Hid ((L ++ [(k : Int)]).length = (T ++ [k]).length) := lhid (by simp [HLL.out.1])
       clear ho8 hg8 hg3 hg7 hc8 hz
       go_wp2_with fail
       go_roundg (n - (k + 1))
       case measure => exact HKN.out.2
       case rel => exact ⟨k + 1, _, _, T ++ [k], A8, c8, rfl, by first | rfl | rw [HLN8.out] | (have h9 := HLN8.out; simp at h9 ⊢; omega), by first | rfl | rw [hwk], HKN.out.1, HNX, HO8⟩
     ·go_simp
      obtain ⟨w5, hw5⟩ : ∃ w5, w5 = wz.alloc (.cells #[.int .i64 d] 3) := ⟨_, rfl⟩
      obtain ⟨bz, hbz⟩ : ∃ bz, bz = wz.heap.size := ⟨_, rfl⟩
      have hS5 : Ch (fun b => b = g3 ∨ b = g7) wr w5 := by rw [hw5]; exact hS0.alloc _
      have HLT : Hid (RdX Tru 1 NuE w5 (.slice (some ⟨bz, 0, none⟩) 1 1) [d]) := lhid (by rw [hw5, hbz]; exact lit_rd wz d)
      have HM5 := lhid (HMZ.out.below (w' := w5) (by rw [hw5]; exact (Below.refl _ _).alloc (Nat.le_refl _) _))
      have HR5 := lhid (HRZ.out.below (w' := w5) (by rw [hw5]; exact (Below.refl _ _).alloc (Nat.le_refl _) _))
      rw [← hw5, ← hbz]
      clear hw5 hbz
      refine hK.out _ _ hS5 (fun _ => ?_)
      clear hK K
      try simp only [Act.put, List.setIfInBounds_toArray, List.set_cons_zero, List.set_cons_succ]
      refine wpAnyH_ready (rs := [10]) (by kernel_rfl) (by simp) ?_
      refine AllReadyH.cons rfl (fun K hK => ?_) AllReadyH.nil
      go_simp
      refine (setOf_r F _ lu U2 w5 (lhid (HRU.out.below (keptX_nu _) (HBW.out w5 hS5))) HFB HUI HU2).mono ?_
      rintro e wy ⟨rfl, hww⟩
      rw [hww]
      clear hww
      dsimp only
      refine hK.out _ _ hS5 (fun _ => ?_)
      clear hK K
      try simp only [Act.put, List.setIfInBounds_toArray, List.set_cons_zero, List.set_cons_succ]
      refine wpAnyH_ready (rs := [18]) (by kernel_rfl) (by simp) ?_
      refine AllReadyH.cons rfl (fun K hK => ?_) AllReadyH.nil
      go_simp
      refine (setOf_r F _ [d] U1 w5 HLT HFB HDI HU1).mono ?_
      rintro e wy ⟨rfl, hww⟩
      rw [hww]
      clear hww
      dsimp only
      refine hK.out _ _ hS5 (fun _ => ?_)
      clear hK K
      try simp only [Act.put, List.setIfInBounds_toArray, List.set_cons_zero, List.set_cons_succ]
      refine wpAnyH_take (i := 19) (v := ?tv25) rfl (by kernel_rfl) (by kernel_rfl) (by kernel_rfl) (fun _ _ _ h => h) (Or.inl ⟨by rfl, ?ty25⟩) hS5 ?tr25
      case ty25 => (intro w' hw'; obtain ⟨y0, y1, y2, y3, y4, y5⟩ := HCELL.out w' hw'; go_simp; try with_reducible rfl)
      try simp only [List.getElem_toArray, List.getElem_cons_zero, List.getElem_cons_succ]
      try simp only [Act.put, List.setIfInBounds_toArray, List.set_cons_zero, List.set_cons_succ]
      have hyf := HM5.out.fz k
      have hyl := HM5.out.lt
      obtain hyc := HM5.out.at' HKN.out.1
      refine wpAnyH_ready (rs := [20]) (by kernel_rfl) (by simp) ?_
      refine AllReadyH.cons rfl (fun K hK => ?_) AllReadyH.nil
      go_simp
      obtain ⟨w6, hw6⟩ : ∃ w6, w6 = w5.setCell ⟨g3, k, none⟩ (.int .u64 (U2.toNat : Int)) := ⟨_, rfl⟩
      have hS6 : Ch (fun b => b = g3 ∨ b = g7) wr w6 := by rw [hw6]; exact hS5.set (p := ⟨g3, k, none⟩) (fun _ => .inl rfl) _
      have HM6 := lhid (HM5.out.put (p := k) U2)
      have HR6 := lhid (HR5.out.of (w' := w6) (by rw [hw6]; exact Below.heap_setCell _ _ _ _ (fun e => HNE.out e.symm)))
      rw [← hw6] at HM6 ⊢
      clear hw6 hyf hyl hyc
      refine hK.out _ _ hS6 (fun _ => ?_)
      clear hK K
      try simp only [Act.put, List.setIfInBounds_toArray, List.set_cons_zero, List.set_cons_succ]
      refine wpAnyH_take (i := 21) (v := ?tv26) rfl (by kernel_rfl) (by kernel_rfl) (by kernel_rfl) (fun _ _ _ h => h) (Or.inl ⟨by rfl, ?ty26⟩) hS6 ?tr26
      case ty26 => (intro w' hw'; obtain ⟨y0, y1, y2, y3, y4, y5⟩ := HCELL.out w' hw'; go_simp; try with_reducible rfl)
      try simp only [List.getElem_toArray, List.getElem_cons_zero, List.getElem_cons_succ]
      try simp only [Act.put, List.setIfInBounds_toArray, List.set_cons_zero, List.set_cons_succ]
      have hyf := HR6.out.fz k
      have hyl := HR6.out.lt
      obtain hyc := HR6.out.at' HKN.out.1
      refine wpAnyH_ready (rs := [22]) (by kernel_rfl) (by simp) ?_
      refine AllReadyH.cons rfl (fun K hK => ?_) AllReadyH.nil
      go_simp
      obtain ⟨w7, hw7⟩ : ∃ w7, w7 = w6.setCell ⟨g7, k, none⟩ (.int .u64 (U1.toNat : Int)) := ⟨_, rfl⟩
      have hS7 : Ch (fun b => b = g3 ∨ b = g7) wr w7 := by rw [hw7]; exact hS6.set (p := ⟨g7, k, none⟩) (fun _ => .inr rfl) _
      have HR7 := lhid (HR6.out.put (p := k) U1)
      have HM7 := lhid (HM6.out.of (w' := w7) (by rw [hw7]; exact Below.heap_setCell _ _ _ _ HNE.out))
      rw [← hw7] at HR7 ⊢
      clear hw7 hyf hyl hyc
      refine hK.out _ _ hS7 (fun _ => ?_)
      clear hK K
      try simp only [Act.put, List.setIfInBounds_toArray, List.set_cons_zero, List.set_cons_succ]
      refine wpAnyH_done (by kernel_rfl) ?_ _
      have HO7 : Hid (OwN w7 wd.heap.size (.slice A T.length c) (T.map fun i : Nat => (i : Int))) := lhid (own_ch HO.out hS7 (fun g hg e => by have h1 := own_lt HO.out g hg; have h2 := HNUM.out; rcases e with e | e <;> omega))
      have hc7 : w7.cell? ⟨g3, k, none⟩ = some (.int .u64 (U2.toNat : Int)) := by have h9 := HM7.out.at' HKN.out.1; rwa [if_pos rfl] at h9
      obtain ⟨_, _, hq8, _, _, _⟩ := HCELL.out w7 hS7
      have HS7 := lhid hS7
      clear hS0 hS5 hS6 hS7
      by_cases hz : U2 = 0
      ·have hz1 : ((U2.toNat : Int) != 0) = false := by rw [hz]; rfl
       have HNX : Hid (AhL wd g3 g7 n (k + 1) LW (fun j => if j = k then U2 else m j) (fun j => if j = k then U1 else wm j) T w7) := lhid (HL.out.next HS7.out HM7.out HR7.out HUU.out HUW.out hz)
       clear hz
       go_wp2_with fail
       go_roundg (n - (k + 1))
       case measure => exact HKN.out.2
       case rel => exact ⟨k + 1, _, _, T, A, c, rfl, rfl, by first | rfl | rw [hwk], HKN.out.1, HNX, HO7⟩
      ·have hz1 : ((U2.toNat : Int) != 0) = true := by
        rw [bne_iff_ne]
        intro e
        exact hz (by apply BitVec.eq_of_toNat_eq; simpa using e)
       obtain ⟨L, hL⟩ : ∃ L, (T.map fun i : Nat => (i : Int)) = L := ⟨_, rfl⟩
       have hLl : L.length = T.length := by rw [← hL]; simp
       have HLL : Hid (L.length = T.length ∧ (T.map fun i : Nat => (i : Int)) = L) := lhid ⟨hLl, hL⟩
       have HLEN : Hid ((L.length + 1) * 8 ≤ 140737488355328) := lhid (by have h1 := HL.out.le; have h2 := hb.out; have h3 := HKN.out; omega)
       rw [hL] at HO7
       rw [← hLl] at HO7 ⊢
       clear hL hLl
       go_wp2_with (at_builtin; refine wpList_append_fresh rfl (.tmp 54) (.tmp 56) rfl wd.heap.size (.slice A L.length c) L rfl (HO7.out.alloc _) ⟨w7.heap.size, 0, none⟩ 1 (k : Int) rfl ?cell ?big ?len ?_)
       case cell => exact heap_cell (i := 0) (heap_alloc_new w7 (.cells #[.int .i64 (k : Int)] 3)) rfl
       case big => have h1 := HS7.out.size; have h2 := HL.out.ch.size; simp; omega
       case len => exact HLEN.out
       intro v' w8 ho8 hg8 _
       obtain ⟨A8, c8, rfl⟩ := own_shape ho8
       have hg3 : w8.heap[g3]? = w7.heap[g3]? := (hg8.block g3 (by have := HM7.out.lt; simp; omega) (fun e => by have h1 := own_lt HO7.out g3 e.symm; have h2 := HNUM.out; omega)).trans (Below.heap_alloc _ _ _ HM7.out.lt)
       have hg7 : w8.heap[g7]? = w7.heap[g7]? := (hg8.block g7 (by have := HR7.out.lt; simp; omega) (fun e => by have h1 := own_lt HO7.out g7 e.symm; have h2 := HNUM.out; omega)).trans (Below.heap_alloc _ _ _ HR7.out.lt)
       have hc8 : Ch (fun b => b = g3 ∨ b = g7) wd w8 := ((HL.out.ch.trans HS7.out (fun _ _ e => e)).alloc _).grown hg8 (fun b e hb => absurd (own_lt HO7.out b e) (by omega))
       have HNX : Hid (AhL wd g3 g7 n (k + 1) LW (fun j => if j = k then U2 else m j) (fun j => if j = k then U1 else wm j) (T ++ [k]) w8) := lhid (HL.out.push hc8 (HM7.out.of hg3) (HR7.out.of hg7) HUU.out HUW.out)
       have HO8 : Hid (OwN w8 wd.heap.size (.slice A8 (T ++ [k]).length c8) ((T ++ [k]).map fun i : Nat => (i : Int))) := lhid (by
        rw [List.map_append, HLL.out.2]
        have h9 := ho8
        rw [show (T ++ [k]).length = (L ++ [(k : Int)]).length by simp [HLL.out.1]]
        exact h9)
       have HLN8 : Hid ((L ++ [(k : Int)]).length = (T ++ [k]).length) := lhid (by simp [HLL.out.1])
       clear ho8 hg8 hg3 hg7 hc8 hz
       go_wp2_with fail
       go_roundg (n - (k + 1))
       case measure => exact HKN.out.2
       case rel => exact ⟨k + 1, _, _, T ++ [k], A8, c8, rfl, by first | rfl | rw [HLN8.out] | (have h9 := HLN8.out; simp at h9 ⊢; omega), by first | rfl | rw [hwk], HKN.out.1, HNX, HO8⟩
   ·have k3 : ¬ (k : Int) < n := by omega
    have hke : k = n := by omega
    subst hke
    obtain ⟨wf, hwf⟩ : ∃ x, x = wr := ⟨_, rfl⟩
    subst hwf
    obtain ⟨⟨d1, d2, d3, d4⟩, hbw⟩ := HK.out wf HL.out.ch
    have HD : Hid (DoX k S UA DA NA PA TA CA uc dc nc pc tc cc WX g8 g9 (TW + 1) g3 g7 TW w wf) := lhid ⟨d1, d2, d3, d4, hbw⟩
    have HG : Hid (Mks wf g3 k m ∧ Mks wf g7 k wm ∧ Mks wf TW S (fun _ => 0)) := lhid ⟨HL.out.mm, HL.out.mr, HTd.out.of (HL.out.ch.block TW HTd.out.lt (by have := HNUM.out; omega))⟩
    have HN3 : Hid (g3 ≠ g7 ∧ g3 ≠ TW ∧ g7 ≠ TW) := lhid (by have h1 := HNUM.out; have h2 := HNE.out; omega)
    have HLE : Hid (w.heap.size ≤ g3 ∧ w.heap.size ≤ g7 ∧ w.heap.size ≤ TW) := lhid (by have h1 := HNUM.out; have h2 := HGE.out; omega)
    have HTv : Hid (RdX Tru 1 NuE wf (.slice A T.length c) (T.map fun i : Nat => (i : Int))) := lhid ((HO.out.rd (by have h1 := HL.out.le; simp; omega)).any (fun _ _ => trivial))
    have HTN : Hid (T.Nodup ∧ ∀ j ∈ T, j < k) := lhid ⟨HL.out.nd, HL.out.lt⟩
    have HI0 : Hid (LvI LW LW.n m (fun _ => 0) T) := lhid (LvI.tm (fun i hi => HL.out.us i (by rw [HLN.out] at hi; exact hi)) (fun j hj => by rw [HLN.out]; exact HL.out.lt j hj) (fun j hj hn => HL.out.ze j (by rw [HLN.out] at hj; exact hj) hn))
    have HZ0 : Hid (2 * zerS k m + T.length ≤ 256 * k) := lhid (by have h1 := zerS_64 k m; have h2 := HL.out.le; omega)
    have HWF : Hid (∀ j, j < k → wm j = LW.wr j) := lhid HL.out.ws
    have HLW3 : Hid ((∀ i, LW.pr i = Ps.getD i []) ∧ (∀ i, LW.ca i = Cs.getD i []) ∧ ∀ i, LW.th i = Th.getD i []) := lhid (by rw [← HLW.out]; exact ⟨fun _ => rfl, fun _ => rfl, fun _ => rfl⟩)
    have HLN3 : Hid (Ps.length = k ∧ Th.length = S ∧ Cs.length = k) := lhid (by have := hlen.out; omega)
    have HB3 : Hid (k * 2048 ≤ 140737488355328 ∧ S * 1024 ≤ 140737488355328) := lhid ⟨hb.out.1, hb.out.2.1⟩
    have HE3 : Hid ((∀ l ∈ Ps, ∀ z ∈ l, ∃ j : Nat, z = j ∧ j < k) ∧ (∀ l ∈ Th, ∀ z ∈ l, ∃ j : Nat, z = j ∧ j < k) ∧ (∀ l ∈ Cs, ∀ z ∈ l, ∃ s : Nat, z = s ∧ s < S)) := lhid ⟨hel.out.1, hel.out.2.1, hel.out.2.2.1⟩
    have q8 := heap_cell (i := 0) d2 rfl
    have HD2 := lhid d2
    clear d1 d2 d3 d4 hbw hk hlt
    go_wp2_with fail
    with_reducible refine (marks_l k S Ps Th Cs UA DA NA PA TA CA uc dc nc pc tc cc WX g8 g9 (TW + 1) g3 g7 TW LW w wf m T wm (fun _ => 0) _ hP hT hCs HLN3 HB3 HE3 HLN HLW3 HWF HD HG HN3 HLE HTv HTN HI0 HZ0).mono ?_
    rintro e w9 ⟨rfl, m', hm9, hall, hc9⟩
    have hlx : w9.heap[g8]? = some (.cells #[.slice (some ⟨g3, 0, none⟩) k k] 50 (0, 0)) := hc9.keep HD2.out (by
     have h1 := blk_ne' HG.out.1 HD2.out
     have h2 := blk_ne' HG.out.2.1 HD2.out
     have h3 := blk_ne' HG.out.2.2 HD2.out
     omega)
    have q9 := heap_cell (i := 0) hlx rfl
    have HB9 : Hid (Below w.heap.size w w9) := lhid ((HK.out wf HL.out.ch).2.trans (hc9.to (HK.out wf HL.out.ch).2.size (fun b e => by have h1 := HLE.out; rcases e with e | e | e <;> omega)))
    have HM9 := lhid hm9
    have HALL := lhid hall
    clear hlx hc9 hm9 hall q8
    go_wp2_with fail
    go_ret
    exact ⟨g3, m', rfl, HLE.out.1, HM9.out, HALL.out, HB9.out⟩
 case hstep =>
  rintro listed a wq j hs ⟨l3, l7, l8, l9, l10, l11, g3, g7, g8, g9, rfl, rfl, HI⟩ hi
  obtain ⟨h1, o, ho, h3⟩ := mem_ready.1 hi
  have HBQ := lhid (HB0.out _ HI.out.bel)
  rcases j with _ | _ | _ | _ | _ | _ | _ | _ | _ | _ | _ | _ | j
  all_goals try (have ho := Option.some.inj ho; subst ho)
  ·simp at h1
  ·simp at h1
  ·simp at h1
  ·have e : l3 = false := h1
   have e10 : l10 = false := by
    cases l10 with
    | false => rfl
    | true => have h9 := (HI.out.ord.1 rfl).1; rw [e] at h9; cases h9
   subst e10
   subst e
   refine wpOp_step rfl (fun K hK => ?_)
   go_simp
   refine hK _ _ ?_
   exact ⟨true, l7, l8, l9, false, l11, wq.heap.size, g7, g8, g9, rfl, rfl, lhid (HI.out.a3 HBQ.out)⟩
  ·simp at h1
  ·simp at h1
  ·simp at h1
  ·have e : l7 = false := h1
   have e11 : l11 = false := by
    cases l11 with
    | false => rfl
    | true => have h9 := (HI.out.ord.2 rfl).1; rw [e] at h9; cases h9
   subst e11
   subst e
   refine wpOp_step rfl (fun K hK => ?_)
   go_simp
   refine hK _ _ ?_
   exact ⟨l3, true, l8, l9, l10, false, g3, wq.heap.size, g8, g9, rfl, rfl, lhid (HI.out.a7 HBQ.out)⟩
  ·have e : l8 = false := h1
   have e10 : l10 = false := by
    cases l10 with
    | false => rfl
    | true => have h9 := (HI.out.ord.1 rfl).2; rw [e] at h9; cases h9
   subst e10
   subst e
   refine wpOp_step rfl (fun K hK => ?_)
   go_simp
   refine hK _ _ ?_
   exact ⟨l3, l7, true, l9, false, l11, g3, g7, wq.heap.size, g9, rfl, rfl, lhid (HI.out.a8 HBQ.out)⟩
  ·have e : l9 = false := h1
   have e11 : l11 = false := by
    cases l11 with
    | false => rfl
    | true => have h9 := (HI.out.ord.2 rfl).2; rw [e] at h9; cases h9
   subst e11
   subst e
   refine wpOp_step rfl (fun K hK => ?_)
   go_simp
   refine hK _ _ ?_
   exact ⟨l3, l7, l8, true, l10, false, g3, g7, g8, wq.heap.size, rfl, rfl, lhid (HI.out.a9 HBQ.out)⟩
  ·have e : l10 = false := h1
   have e3 : l3 = true := h3 ⟨3, .data⟩ (by simp) rfl
   have e8 : l8 = true := h3 ⟨8, .data⟩ (by simp) rfl
   subst e3 e8 e
   have h8 := (HI.out.b8 rfl).2
   have q8 := heap_cell (i := 0) h8 rfl
   have z8 := heap_thaw h8 0
   have gl8 := heap_lt h8
   refine wpOp_step rfl (fun K hK => ?_)
   go_simp
   refine hK _ _ ?_
   exact ⟨true, l7, true, l9, true, l11, g3, g7, g8, g9, rfl, rfl, lhid (HI.out.s10 (Nat.le_refl _))⟩
  ·have e : l11 = false := h1
   have e7 : l7 = true := h3 ⟨7, .data⟩ (by simp) rfl
   have e9 : l9 = true := h3 ⟨9, .data⟩ (by simp) rfl
   subst e7 e9 e
   have h9 := (HI.out.b9 rfl).2
   have q9 := heap_cell (i := 0) h9 rfl
   have z9 := heap_thaw h9 0
   have gl9 := heap_lt h9
   refine wpOp_step rfl (fun K hK => ?_)
   go_simp
   refine hK _ _ ?_
   exact ⟨l3, true, l8, true, l10, true, g3, g7, g8, g9, rfl, rfl, lhid (HI.out.s11 (Nat.le_refl _))⟩
  ·cases ho
end Go.Proofs.Ytoommeiiadobfaa
