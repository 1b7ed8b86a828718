/- The instructions that stay: the program's trimmedCode. -/
import Derived.Test.YtbkeneadoccodaaM13
namespace Go.Proofs.Ytbkeneadoccodaa
open Go.RowKit Go
set_option linter.unusedVariables false
set_option linter.unusedSimpArgs false
def trX (N : Nat → Int) (x : InI) : InI := { x with too := if leadsB x.op then N x.too.toNat else 0 }
def trT (c : List InI) (N : Nat → Int) (m : Nat) : List InI := (List.range m).flatMap fun i => match c[i]? with | some x => if N i < N (i + 1) then [trX N x] else [] | none => []
theorem trT_yes {c : List InI} {N : Nat → Int} {k : Nat} {x : InI} (hx : c[k]? = some x) (h : N k < N (k + 1)) : trT c N (k + 1) = trT c N k ++ [trX N x] := by
 unfold trT
 rw [List.range_succ, List.flatMap_append]
 simp [hx, h]
theorem trT_no {c : List InI} {N : Nat → Int} {k : Nat} {x : InI} (hx : c[k]? = some x) (h : ¬ N k < N (k + 1)) : trT c N (k + 1) = trT c N k := by
 unfold trT
 rw [List.range_succ, List.flatMap_append]
 simp [hx, h]
theorem trT_len (c : List InI) (N : Nat → Int) (m : Nat) : (trT c N m).length ≤ m := by
 induction m with
 | zero => simp [trT]
 | succ k ih =>
  cases hx : c[k]? with
  | none =>
   have : trT c N (k + 1) = trT c N k := by
    unfold trT
    rw [List.range_succ, List.flatMap_append]
    simp [hx]
   rw [this]
   omega
  | some x =>
   by_cases h : N k < N (k + 1)
   ·rw [trT_yes hx h, List.length_append]
    simp
    omega
   ·rw [trT_no hx h]
    omega
def OwC (P : Nat → Prop) (w0 w : World) (B : Nat) (v : Value) (L : List InI) : Prop := ∃ xs, w.ownsRow B 29 9 v L.length xs ∧ RowsE 9 (InE P w0) L xs
theorem make_code (m : Nat) (hm : m * 96 ≤ 140737488355328) (w : World) :
  ∃ z, (Instr.makeSlice 24 (.int .i64 0) (.int .i64 (m : Int))).run Try.prog w = .ok (.slice (some ⟨w.heap.size, 0, none⟩) 0 m) (w.alloc (.cells z 29)) ∧ z.size = m * 9 := by
 obtain ⟨i0, hi0, hz0, hz1, hz2⟩ := info_parts info_in
 have h := run_make (P := Try.prog) w 24 29 i0 _ Try.underlying24 hi0 hz0 .i64 .i64 0 m (by omega) (by omega) (by rw [hz2]; omega) (by omega)
 rw [hz1] at h
 exact ⟨_, h, by rw [size_madeCells]; simp⟩
set_option maxHeartbeats 16000000 in
set_option maxRecDepth 100000 in
theorem trimmedCode_any {P Q : Nat → Prop} (c : List InI) (cv nv : Value) (N : Nat → Int) (w : World) (h : Hid (RdX P 9 (InE P) w cv c)) (hcl : Hid (c.length * 96 ≤ 140737488355328)) (hv : Hid (RdX Q 1 NuE w nv ((List.range (c.length + 1)).map N)))
  (hN : Hid (∀ i, 0 ≤ N i ∧ N i ≤ i)) (hto : Hid (∀ x ∈ c, leadsB x.op = true → 0 ≤ x.too ∧ x.too < c.length)) :
  Calls Try.prog 38 #[cv, nv] w fun e w' => ∃ v, e = .returned v ∧ OwC P w w' w.heap.size v (trT c N c.length) ∧ Below w.heap.size w w' := by
 obtain ⟨D, dcap, hD⟩ := h.out.shape
 subst hD
 obtain ⟨NA, nc, hNA⟩ := hv.out.shape
 rw [show ((List.range (c.length + 1)).map N).length = c.length + 1 by simp] at hNA
 subst hNA
 obtain ⟨n, hn⟩ : ∃ n, c.length = n := ⟨_, rfl⟩
 have HN := lhid hn
 have hd := h.out
 have hcl2 := hcl.out
 rw [hn] at hd hcl2 hv ⊢
 have HDD := lhid hd
 obtain ⟨TL, hTL⟩ : ∃ TL, trT c N n = TL := ⟨_, rfl⟩
 rw [hTL]
 have HTL := lhid hTL
 have hnow : ∀ j : Nat, j < n + 1 → ∃ ng no, NA = some ⟨ng, no, none⟩ ∧ w.cell? ⟨ng, no + j, none⟩ = some (.int .i64 (N j)) := fun j hj => by
  obtain ⟨g, o, c1, h1, _, h2, h3⟩ := hv.out.at' (i := j) (a := N j) (by simp [hj])
  have h2 : c1 = [.int .i64 (N j)] := h2
  subst h2
  have h4 := h3 0 _ rfl
  rw [Nat.add_zero, Nat.mul_one] at h4
  exact ⟨g, o, h1, h4⟩
 obtain ⟨ng, no, hNA, e0⟩ := hnow n (by omega)
 subst hNA
 have HNOW : Hid (∀ j : Nat, j < n + 1 → w.cell? ⟨ng, no + j, none⟩ = some (.int .i64 (N j))) := lhid fun j hj => by
  obtain ⟨g, o, h1, h2⟩ := hnow j hj
  injection h1 with h1
  injection h1 with h1 h3
  subst h1 h3
  exact h2
 obtain ⟨m, hm⟩ : ∃ m : Nat, N n = m := ⟨(N n).toNat, by have := (hN.out n).1; omega⟩
 have hmn : m ≤ n := by have := (hN.out n).2; omega
 rw [hm] at e0
 obtain ⟨z, hmake, hz⟩ := make_code m (by omega) w
 have k0 : (n : Int) < (n : Int) + 1 := by omega
 have HZ := lhid hz
 clear hn hd hTL hnow hm hz
 go_enter Try.func38, Try.ntmps38
 go_wp2_with fail
 have HO0 : Hid (OwC P w (w.alloc (.cells z 29)) w.heap.size (.slice (some ⟨w.heap.size, 0, none⟩) 0 m) []) := lhid ⟨[], ⟨rfl, .inr ⟨w.heap.size, m, z, rfl, Nat.le_refl _, heap_alloc_new w _, Nat.zero_le _, by unfold maxLen; omega, HZ.out, by simp⟩⟩, rowsE_nil _ _⟩
 have HB0 := lhid ((Below.refl w.heap.size w).alloc (Nat.le_refl _) (.cells z 29))
 clear hmake e0 k0
 obtain ⟨i0, hi0, hz0, hz1, hz2⟩ := info_parts info_in
 go_loopw [5, 17] (fun v i wr => ∃ (L : List InI) (A : Option Addr) (q k : Nat), v = .slice A L.length q ∧ i = .int .i64 k ∧ k ≤ n ∧ Hid (L = trT c N k) ∧ Hid (OwC P w wr w.heap.size (.slice A L.length q) L) ∧ Hid (Below w.heap.size w wr)) (fun _ i _ => n - (intOf i).toNat)
 case atStart => exact ⟨[], _, m, 0, rfl, rfl, Nat.zero_le _, lhid (by simp [trT]), HO0, HB0⟩
 case round =>
  clear HO0 HB0 HZ
  obtain ⟨L, A, q, k, rfl, rfl, hk, HL, HO, HB⟩ := hrel
  by_cases hlt : k < n
  ·
   obtain ⟨x, hx⟩ : ∃ x, c[k]? = some x := ⟨_, List.getElem?_eq_getElem (by have := HN.out; omega)⟩
   obtain ⟨g, o, v, hD, _, hva, c0, c1, c2, c3, c4, c5, c6, c7, c8⟩ := in_cells HDD.out hx
   subst hD
   obtain ⟨VA, vc, hv0⟩ := hva.shape
   subst hv0
   have HVA := lhid hva
   have kc : ∀ {p : Addr} {u : Value}, w.cell? p = some u → wr.cell? p = some u := fun {p u} hq => (HB.out.cell (p := p) (cell_lt hq)).trans hq
   replace c0 := kc c0
   replace c1 := kc c1
   replace c2 := kc c2
   replace c3 := kc c3
   replace c4 := kc c4
   replace c5 := kc c5
   replace c6 := kc c6
   replace c7 := kc c7
   replace c8 := kc c8
   have d0 := kc (HNOW.out k (by omega))
   have d1 := kc (HNOW.out (k + 1) (by omega))
   have hng : ng < wr.heap.size := cell_lt d0
   have hgw : g < wr.heap.size := cell_lt c0
   have HX := lhid hx
   have HLE := lhid (trT_len c N k)
   have k3 : (k : Int) < n := by omega
   have k4 : (k : Int) < (n : Int) + 1 := by omega
   have k5 : (k : Int) + 1 < (n : Int) + 1 := by omega
   have hwk : wrap64 ((k : Int) + 1) = (k : Int) + 1 := IntWalk.wrap64_in _ (by omega)
   have hwq : IntKind.i64.wrap ((k : Int) + 1) = (k : Int) + 1 := IntWalk.i64_in _ (by omega)
   obtain ⟨t0, ht0⟩ : ∃ t, N k = t := ⟨_, rfl⟩
   obtain ⟨t1, ht1⟩ : ∃ t, N (k + 1) = t := ⟨_, rfl⟩
   rw [ht0] at d0
   rw [ht1] at d1
   have d1' := d1
   rw [show no + (k + 1) = no + k + 1 by omega] at d1'
   have HT0 := lhid ht0
   have HT1 := lhid ht1
   clear hx kc hva ht0 ht1
   by_cases hs : t0 < t1
   ·have HL2 : Hid (L ++ [trX N x] = trT c N (k + 1)) := lhid (by rw [trT_yes HX.out (by rw [HT0.out, HT1.out]; exact hs), HL.out])
    have HBA := lhid (HB.out.alloc HB.out.size (.cells #[.int .i64 x.op, .int .i64 x.dst, .int .i64 x.a, .int .i64 x.b, .int .i64 x.c, .int .i64 x.num, .int .i64 x.too, .string (tx x.ref), .slice VA x.args.length vc] 29))
    go_upto_region 5 with fail
    go_quiet (fail)
    generalize hwd : World.drewN _ _ = wd
    have HBD : Hid (Below w.heap.size w wd) := lhid (by rw [← hwd]; exact Below.drewN' HBA.out _)
    have XBD : Hid (XBox wd wr.heap.size x.op x.dst x.a x.b x.c x.num x.too x.ref (.slice VA x.args.length vc)) := lhid (by rw [← hwd]; exact heap_alloc_new wr _)
    have HOD : Hid (OwC P w wd w.heap.size (.slice A L.length q) L) := lhid (by rw [← hwd]; obtain ⟨xs, h1, h2⟩ := HO.out; exact ⟨xs, h1.alloc _, h2⟩)
    clear hwd d0 d1 d1' c0 c1 c2 c3 c4 c5 c6 c7 c8 HBA
    obtain ⟨x0, x1, x2, x3, x4, x5, x6, x7, x8⟩ := XBD.out.cells
    cases hz : leadsB x.op with
    | true =>
     have HZ := lhid hz
     clear hz
     go_wp2_with fail
     with_reducible refine (leads_r x (.slice VA x.args.length vc) true _ HZ).mono ?_
     rintro e w5 ⟨rfl, hb5⟩
     have XB5 : Hid (XBox w5 wr.heap.size x.op x.dst x.a x.b x.c x.num x.too x.ref (.slice VA x.args.length vc)) := lhid (heap_keep XBD.out hb5)
     have HO5 : Hid (OwC P w w5 w.heap.size (.slice A L.length q) L) := lhid (by obtain ⟨xs, h1, h2⟩ := HOD.out; exact ⟨xs, own_of h1 fun b hb => hb5.block b (h1.lt b hb).2, h2⟩)
     have HB5 := lhid (HBD.out.trans (hb5.mono HBD.out.size))
     clear hb5 x0 x1 x2 x3 x4 x5 x6 x7 x8
     obtain ⟨x0, x1, x2, x3, x4, x5, x6, x7, x8⟩ := XB5.out.cells
     have xt := heap_thaw XB5.out 6
     have xl := heap_lt XB5.out
     have HOL : Hid (∀ b, (Value.slice A L.length q).ownBlock = some b → b < wr.heap.size) := lhid (by obtain ⟨xs, h1, h2⟩ := HO.out; exact fun b hb => (h1.lt b hb).2)
     obtain ⟨j, hj⟩ : ∃ j : Nat, x.too = j := ⟨x.too.toNat, by have := hto.out x (List.mem_of_getElem? HX.out) HZ.out; omega⟩
     have hjn : (j : Int) < (n : Int) + 1 := by have := hto.out x (List.mem_of_getElem? HX.out) HZ.out; rw [HN.out, hj] at this; omega
     have d2 := (HB5.out.cell (cell_lt (HNOW.out j (by omega)))).trans (HNOW.out j (by omega))
     obtain ⟨t2, ht2⟩ : ∃ t, N j = t := ⟨_, rfl⟩
     rw [ht2] at d2
     rw [hj] at x6
     have HTX : Hid ((trX N x).too = t2) := lhid (by show (if leadsB x.op then N x.too.toNat else 0) = t2; rw [HZ.out, hj]; exact ht2)
     have HJ := lhid hj
     have ngl : ng < w5.heap.size := cell_lt d2
     clear ht2 hj
     obtain ⟨xs, HXS⟩ : ∃ xs, Hid (w5.ownsRow w.heap.size 29 9 (.slice A L.length q) L.length xs ∧ RowsE 9 (InE P w) L xs) := by obtain ⟨xs, h1, h2⟩ := HO5.out; exact ⟨xs, lhid ⟨h1, h2⟩⟩
     have HOS : Hid ((w5.setCell ⟨wr.heap.size, 6, none⟩ (.int .i64 t2)).ownsRow w.heap.size 29 9 (.slice A L.length q) L.length xs) := lhid (own_of HXS.out.1 fun b hb => Below.heap_setCell _ _ _ _ (by have := HOL.out b hb; show b ≠ wr.heap.size; omega))
     have HBS : Hid (Below w.heap.size w (w5.setCell ⟨wr.heap.size, 6, none⟩ (.int .i64 t2))) := lhid (HB5.out.setCell (p := ⟨wr.heap.size, 6, none⟩) HB.out.size _)
     have hle := HLE.out
     rw [← HL.out] at hle
     go_wp2_with (at_builtin; refine wpList_append_own _ rfl (.tmp 43) (.tmp 45) 24 rfl w.heap.size 29 i0 (.agg #[.int .i64 0, .int .i64 0, .int .i64 0, .int .i64 0, .int .i64 0, .int .i64 0, .int .i64 0, .string ⟨#[]⟩, .slice none 0 0]) 9 96 Try.underlying24 hi0 hz0 hz1 hz2 rfl (by decide) (.slice A L.length q) L.length xs rfl (HOS.out.alloc _) ⟨w5.heap.size, 0, none⟩ 1 1 [.int .i64 x.op, .int .i64 x.dst, .int .i64 x.a, .int .i64 x.b, .int .i64 x.c, .int .i64 x.num, .int .i64 t2, .string (tx x.ref), .slice VA x.args.length vc] rfl rfl ?c1 ?c2 ?c3 ?c4 ?c5 ?_)
     case c1 =>
      have h9 := new_cells (w5.setCell ⟨wr.heap.size, 6, none⟩ (.int .i64 t2)) [.int .i64 x.op, .int .i64 x.dst, .int .i64 x.a, .int .i64 x.b, .int .i64 x.c, .int .i64 x.num, .int .i64 t2, .string (tx x.ref), .slice VA x.args.length vc] 29
      rw [show (w5.setCell ⟨wr.heap.size, 6, none⟩ (.int .i64 t2)).heap.size = w5.heap.size by simp [World.setCell]] at h9
      exact h9
     case c2 =>
      intro u hu
      simp only [List.mem_cons, List.not_mem_nil, or_false] at hu
      rcases hu with rfl | rfl | rfl | rfl | rfl | rfl | rfl | rfl | rfl <;> rfl
     case c3 => (unfold maxLen; omega)
     case c4 => omega
     case c5 => (have h5 := HB5.out.size; simp; omega)
     intro v' w' hown hgrow hnil
     obtain ⟨A', q', rfl⟩ := own_shape hown
     have HOF : Hid (OwC P w w' w.heap.size (.slice A' (L ++ [trX N x]).length q') (L ++ [trX N x])) := lhid ⟨_, by rw [List.length_append]; exact hown, HXS.out.2.app (rowsE_one (a := trX N x) ⟨_, by rw [HTX.out]; rfl, HVA.out⟩ rfl)⟩
     have HBF := lhid (Below.grown (HBS.out.alloc HBS.out.size _) hgrow (by have h5 := HB5.out.size; simp; omega) (fun r e => own_lt HXS.out.1 r e))
     obtain ⟨U, hU⟩ : ∃ U, L ++ [trX N x] = U := ⟨_, rfl⟩
     have hUl : L.length + 1 = U.length := by rw [← hU]; simp
     rw [hU] at HOF HL2
     clear hown hgrow hnil hU hle
     go_wp2_with fail
     go_roundw
     case rel => exact ⟨U, A', q', k + 1, by rw [hUl], by go_num, by omega, HL2, HOF, HBF⟩
     case measure => simp [intOf]; omega
    | false =>
     have HZ := lhid hz
     clear hz
     go_wp2_with fail
     with_reducible refine (leads_r x (.slice VA x.args.length vc) false _ HZ).mono ?_
     rintro e w5 ⟨rfl, hb5⟩
     have XB5 : Hid (XBox w5 wr.heap.size x.op x.dst x.a x.b x.c x.num x.too x.ref (.slice VA x.args.length vc)) := lhid (heap_keep XBD.out hb5)
     have HO5 : Hid (OwC P w w5 w.heap.size (.slice A L.length q) L) := lhid (by obtain ⟨xs, h1, h2⟩ := HOD.out; exact ⟨xs, own_of h1 fun b hb => hb5.block b (h1.lt b hb).2, h2⟩)
     have HB5 := lhid (HBD.out.trans (hb5.mono HBD.out.size))
     clear hb5 x0 x1 x2 x3 x4 x5 x6 x7 x8
     obtain ⟨x0, x1, x2, x3, x4, x5, x6, x7, x8⟩ := XB5.out.cells
     have xt := heap_thaw XB5.out 6
     have xl := heap_lt XB5.out
     have HOL : Hid (∀ b, (Value.slice A L.length q).ownBlock = some b → b < wr.heap.size) := lhid (by obtain ⟨xs, h1, h2⟩ := HO.out; exact fun b hb => (h1.lt b hb).2)
     have HTX : Hid ((trX N x).too = 0) := lhid (by show (if leadsB x.op then N x.too.toNat else 0) = 0; rw [HZ.out]; rfl)
     obtain ⟨xs, HXS⟩ : ∃ xs, Hid (w5.ownsRow w.heap.size 29 9 (.slice A L.length q) L.length xs ∧ RowsE 9 (InE P w) L xs) := by obtain ⟨xs, h1, h2⟩ := HO5.out; exact ⟨xs, lhid ⟨h1, h2⟩⟩
     have HOS : Hid ((w5.setCell ⟨wr.heap.size, 6, none⟩ (.int .i64 0)).ownsRow w.heap.size 29 9 (.slice A L.length q) L.length xs) := lhid (own_of HXS.out.1 fun b hb => Below.heap_setCell _ _ _ _ (by have := HOL.out b hb; show b ≠ wr.heap.size; omega))
     have HBS : Hid (Below w.heap.size w (w5.setCell ⟨wr.heap.size, 6, none⟩ (.int .i64 0))) := lhid (HB5.out.setCell (p := ⟨wr.heap.size, 6, none⟩) HB.out.size _)
     have hle := HLE.out
     rw [← HL.out] at hle
     go_wp2_with (at_builtin; refine wpList_append_own _ rfl (.tmp 43) (.tmp 45) 24 rfl w.heap.size 29 i0 (.agg #[.int .i64 0, .int .i64 0, .int .i64 0, .int .i64 0, .int .i64 0, .int .i64 0, .int .i64 0, .string ⟨#[]⟩, .slice none 0 0]) 9 96 Try.underlying24 hi0 hz0 hz1 hz2 rfl (by decide) (.slice A L.length q) L.length xs rfl (HOS.out.alloc _) ⟨w5.heap.size, 0, none⟩ 1 1 [.int .i64 x.op, .int .i64 x.dst, .int .i64 x.a, .int .i64 x.b, .int .i64 x.c, .int .i64 x.num, .int .i64 0, .string (tx x.ref), .slice VA x.args.length vc] rfl rfl ?c1 ?c2 ?c3 ?c4 ?c5 ?_)
     case c1 =>
      have h9 := new_cells (w5.setCell ⟨wr.heap.size, 6, none⟩ (.int .i64 0)) [.int .i64 x.op, .int .i64 x.dst, .int .i64 x.a, .int .i64 x.b, .int .i64 x.c, .int .i64 x.num, .int .i64 0, .string (tx x.ref), .slice VA x.args.length vc] 29
      rw [show (w5.setCell ⟨wr.heap.size, 6, none⟩ (.int .i64 0)).heap.size = w5.heap.size by simp [World.setCell]] at h9
      exact h9
     case c2 =>
      intro u hu
      simp only [List.mem_cons, List.not_mem_nil, or_false] at hu
      rcases hu with rfl | rfl | rfl | rfl | rfl | rfl | rfl | rfl | rfl <;> rfl
     case c3 => (unfold maxLen; omega)
     case c4 => omega
     case c5 => (have h5 := HB5.out.size; simp; omega)
     intro v' w' hown hgrow hnil
     obtain ⟨A', q', rfl⟩ := own_shape hown
     have HOF : Hid (OwC P w w' w.heap.size (.slice A' (L ++ [trX N x]).length q') (L ++ [trX N x])) := lhid ⟨_, by rw [List.length_append]; exact hown, HXS.out.2.app (rowsE_one (a := trX N x) ⟨_, by rw [HTX.out]; rfl, HVA.out⟩ rfl)⟩
     have HBF := lhid (Below.grown (HBS.out.alloc HBS.out.size _) hgrow (by have h5 := HB5.out.size; simp; omega) (fun r e => own_lt HXS.out.1 r e))
     obtain ⟨U, hU⟩ : ∃ U, L ++ [trX N x] = U := ⟨_, rfl⟩
     have hUl : L.length + 1 = U.length := by rw [← hU]; simp
     rw [hU] at HOF HL2
     clear hown hgrow hnil hU hle
     go_wp2_with fail
     go_roundw
     case rel => exact ⟨U, A', q', k + 1, by rw [hUl], by go_num, by omega, HL2, HOF, HBF⟩
     case measure => simp [intOf]; omega
   ·have HL2 : Hid (L = trT c N (k + 1)) := lhid (by rw [trT_no HX.out (by rw [HT0.out, HT1.out]; exact hs)]; exact HL.out)
    have HB2 := lhid (HB.out.alloc HB.out.size (.cells #[.int .i64 x.op, .int .i64 x.dst, .int .i64 x.a, .int .i64 x.b, .int .i64 x.c, .int .i64 x.num, .int .i64 x.too, .string (tx x.ref), .slice VA x.args.length vc] 29))
    have HO2 : Hid (OwC P w (wr.alloc (.cells #[.int .i64 x.op, .int .i64 x.dst, .int .i64 x.a, .int .i64 x.b, .int .i64 x.c, .int .i64 x.num, .int .i64 x.too, .string (tx x.ref), .slice VA x.args.length vc] 29)) w.heap.size (.slice A L.length q) L) := lhid (by obtain ⟨xs, h1, h2⟩ := HO.out; exact ⟨xs, h1.alloc _, h2⟩)
    go_upto_region 5 with fail
    go_quiet (fail)
    generalize hwd : World.drewN _ _ = wd
    have HB3 : Hid (Below w.heap.size w wd) := lhid (by rw [← hwd]; exact Below.drewN' HB2.out _)
    have HO3 : Hid (OwC P w wd w.heap.size (.slice A L.length q) L) := lhid (by rw [← hwd]; exact HO2.out)
    clear hwd d0 d1 d1' c0 c1 c2 c3 c4 c5 c6 c7 c8
    go_wp2_with fail
    go_roundw
    case rel => exact ⟨L, A, q, k + 1, rfl, by go_num, by omega, HL2, HO3, HB3⟩
    case measure => simp [intOf]; omega
  ·have k3 : ¬ (k : Int) < n := by omega
   have hke : k = n := by omega
   have HR : Hid (L = TL) := lhid (by rw [HL.out, hke]; exact HTL.out)
   clear hke
   go_wp2_with fail
   go_ret
   refine ⟨_, rfl, ?_, HB.out⟩
   rw [← HR.out]
   exact HO.out
end Go.Proofs.Ytbkeneadoccodaa
