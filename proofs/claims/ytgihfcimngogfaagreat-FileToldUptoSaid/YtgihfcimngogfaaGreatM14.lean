/- Texts of this claim, joined: FileWr3, FileWrS, FileWrT. -/
import Derived.Test.YtgihfcimngogfaaGreatM13
import Derived.Lib.AppendStr
namespace Go.Proofs.YtgihfcimngogfaaGreat
open Go.RowKit Go
set_option linter.unusedVariables false
theorem step_append_str {P : Program} {w : World} {ops : Array Oper} {o : Oper} {a : Act} {K : Act → World → Prop} {Q : Exit → Act → World → Prop} {E : Prop} (hgd : o.guard = none) (sl x : Operand) (t u : TypeId)
  (ho : o.op = .call { callee := .builtin .append, args := #[sl, x], argTypes := #[t, u] })
  (base : Nat) (e : TypeId) (i : TypeInfo) (ht : P.underlying t = some (.slice e)) (hu : P.underlying u = some .string) (hi : P.info? e = some i) (hz : i.zero = some (.int .u8 0))
  (hsize : i.size = 1) (hby : i.bytes = 1)
  (v : Value) (n : Nat) (xs : List Value) (hs : a.eval sl = v) (hown : w.ownsRow base e 1 v n xs) (s : ByteArray) (hx : a.eval x = .string s)
  (h63 : n + s.size ≤ maxLen) (hbytes : n + s.size ≤ 140737488355328) (hbase : base ≤ w.heap.size)
  (h : ∀ v' w', w'.ownsRow base e 1 v' (n + s.size) (xs ++ Lib.strCells s) → w.grownBy w' v.ownBlock → K (a.put o.dst v') w') :
  if Region.wanted o (yielded ops a.tmps) = true then Oper.wp P o a w K Q else E := by
 have hw : Region.wanted o (yielded ops a.tmps) = true := by simp [Region.wanted, hgd]
 rw [if_pos hw]
 obtain ⟨v', w', hr, h2, h3, h4⟩ := Lib.run_append_own_string (P := P) w base t u o.type e i ht hu hi hz hsize hby v n xs hown s h63 hbytes hbase
 unfold Oper.wp execOp
 simp only [ho, resolve, invoke, builtin, Sem.run_bind, Sem.run_pure, Result.andThen_ok, List.map_toArray, List.map_cons, List.map_nil, hs, hx, hr]
 exact h v' w' h2 h3
theorem wFind_len (L : List CoI) (k : Int) (t : Bs) (o : Ou) : (wFind L k t o).2.1 = o.1 := by
 unfold wFind
 cases fnd L k t <;> rfl
theorem wNum_len (n : Nat) (x : Int) (o : Ou) : (wNum n x o).1.length = o.1.length + n := by
 unfold wNum
 rw [List.length_append, beW_len]
theorem wnumI (B M : Nat) (pv : Value) (n : Nat) (n' : Int) (hnn : Hid (n' = n)) (x : Int) (o : Ou) (w : World) (h : Hid (Wo B M pv w o)) (hn : n ≤ 8) (hB : B ≤ w.heap.size) (hBM : B ≤ M) (hl : o.1.length ≤ 70368744177664) :
  Calls Tryz.prog 23 #[.pointer (some ⟨M, 0, none⟩), .int .i64 n', .int .i64 x] w fun e w' => e = .returned (.tuple #[]) ∧ Wo B M pv w' (wNum n x o) ∧ Below B w w' ∧ Stay tW w w' := by
 rw [hnn.out]
 exact wnum_any B M pv n x o w h hn hB hBM hl
set_option maxHeartbeats 8000000 in
set_option maxRecDepth 100000 in
theorem wcon_class (w0 : World) (M : Nat) (pv : Value) (L : List CoI) (c : CoI) (o : Ou) (w : World) (h : Hid (Wo w0.heap.size M pv w o)) (hp : Hid (RdL 5 CoIE w0 pv L)) (hb : Hid (Below w0.heap.size w0 w)) (hBM : w0.heap.size ≤ M) (hl : o.1.length ≤ 1000000000) (hk : Hid (c.kind = 7)) :
  Calls Tryz.prog 24 #[.pointer (some ⟨M, 0, none⟩), .agg #[.int .i64 c.kind, .int .i64 c.num, .string (tx c.text), .string (tx c.name), .string (tx c.desc)]] w fun e w' => e = .returned (.tuple #[]) ∧ Wo w0.heap.size M pv w' (wCon L c o) ∧ Below w0.heap.size w w' ∧ Stay tW w w' := by
 have HC : Hid (wCon L c o = wRef L 1 c.text (wNum 1 7 o)) := lhid (by unfold wCon; rw [hk.out]; simp)
 rw [HC.out, hk.out]
 have hs0 := hb.out.size
 have HB0 : Hid (Below w0.heap.size w (w.alloc (.cells #[.int .i64 7, .int .i64 c.num, .string (tx c.text), .string (tx c.name), .string (tx c.desc)] 39))) := lhid ((Below.refl _ w).alloc hs0 _)
 have HW0 := lhid (h.out.below ((Below.refl w.heap.size w).alloc (Nat.le_refl _) (.cells #[.int .i64 7, .int .i64 c.num, .string (tx c.text), .string (tx c.name), .string (tx c.desc)] 39)))
 have HX0 := lhid (heap_alloc_new w (.cells #[.int .i64 7, .int .i64 c.num, .string (tx c.text), .string (tx c.name), .string (tx c.desc)] 39))
 have HS0 := lhid ((Stay.refl tW w).alloc (.cells #[.int .i64 7, .int .i64 c.num, .string (tx c.text), .string (tx c.name), .string (tx c.desc)] 39))
 go_enter Tryz.func24, Tryz.ntmps24
 go_wp2_with fail
 generalize w.alloc (.cells #[.int .i64 7, .int .i64 c.num, .string (tx c.text), .string (tx c.name), .string (tx c.desc)] 39) = wa at *
 with_reducible refine (wnumI w0.heap.size M pv 1 1 (lhid rfl) 7 o wa HW0 (by omega) (Nat.le_trans hs0 HB0.out.size) hBM (by omega)).mono ?_
 rintro e w1 ⟨rfl, h1, b1, s1⟩
 have HW1 := lhid h1
 have HB1 := lhid (HB0.out.trans b1)
 have HS1 := lhid (HS0.out.trans s1)
 have HX1 := lhid (s1 _ _ _ _ (by simp) HX0.out)
 clear h1 b1 s1
 have x0 := heap_cell (i := 0) HX1.out rfl
 have x2 := heap_cell (i := 2) HX1.out rfl
 go_wp2_with fail
 with_reducible refine (wfind_any w0.heap.size M pv L 1 c.text (wNum 1 7 o) w1 HW1 (lhid (hp.out.below kept_co (hb.out.trans HB1.out))) (Nat.le_trans hs0 HB1.out.size) hBM).mono ?_
 rintro e w2 ⟨rfl, h2, b2, s2⟩
 have HW2 := lhid h2
 have HB2 := lhid (HB1.out.trans b2)
 have HS2 := lhid (HS1.out.trans s2)
 clear h2 b2 s2 x0 x2
 have hl2 : (wFind L 1 c.text (wNum 1 7 o)).2.1.length ≤ 70368744177664 := by rw [wFind_len, wNum_len]; omega
 go_wp2_with fail
 with_reducible refine (wnumI w0.heap.size M pv 2 2 (lhid rfl) _ _ w2 HW2 (by omega) (Nat.le_trans hs0 HB2.out.size) hBM hl2).mono ?_
 rintro e w3 ⟨rfl, h3, b3, s3⟩
 have HW3 := lhid h3
 have HB3 := lhid (HB2.out.trans b3)
 have HS3 := lhid (HS2.out.trans s3)
 clear h3 b3 s3
 go_wp2_with fail
 go_end0
 exact ⟨rfl, HW3.out, HB3.out, HS3.out⟩
set_option maxHeartbeats 8000000 in
set_option maxRecDepth 100000 in
theorem wcon_text (w0 : World) (M : Nat) (pv : Value) (L : List CoI) (c : CoI) (o : Ou) (w : World) (h : Hid (Wo w0.heap.size M pv w o)) (hb : Hid (Below w0.heap.size w0 w)) (hBM : w0.heap.size ≤ M) (hl : o.1.length ≤ 1000000000) (ht : c.text.length ≤ 1000000000) (hk : Hid (c.kind = 1)) :
  Calls Tryz.prog 24 #[.pointer (some ⟨M, 0, none⟩), .agg #[.int .i64 c.kind, .int .i64 c.num, .string (tx c.text), .string (tx c.name), .string (tx c.desc)]] w fun e w' => e = .returned (.tuple #[]) ∧ Wo w0.heap.size M pv w' (wCon L c o) ∧ Below w0.heap.size w w' ∧ Stay tW w w' := by
 have HC : Hid (wCon L c o = ((wNum 2 c.text.length (wNum 1 1 o)).1 ++ c.text, o.2)) := lhid (by unfold wCon; rw [hk.out]; rfl)
 rw [HC.out, hk.out]
 have hs0 := hb.out.size
 have hts : (tx c.text).size = c.text.length := tx_size c.text
 have HB0 : Hid (Below w0.heap.size w (w.alloc (.cells #[.int .i64 1, .int .i64 c.num, .string (tx c.text), .string (tx c.name), .string (tx c.desc)] 39))) := lhid ((Below.refl _ w).alloc hs0 _)
 have HW0 := lhid (h.out.below ((Below.refl w.heap.size w).alloc (Nat.le_refl _) (.cells #[.int .i64 1, .int .i64 c.num, .string (tx c.text), .string (tx c.name), .string (tx c.desc)] 39)))
 have HX0 := lhid (heap_alloc_new w (.cells #[.int .i64 1, .int .i64 c.num, .string (tx c.text), .string (tx c.name), .string (tx c.desc)] 39))
 have HS0 := lhid ((Stay.refl tW w).alloc (.cells #[.int .i64 1, .int .i64 c.num, .string (tx c.text), .string (tx c.name), .string (tx c.desc)] 39))
 obtain ⟨i0, hi0, hz0, hz1, hz2⟩ := info_parts infoU8
 go_enter Tryz.func24, Tryz.ntmps24
 go_wp2_with fail
 generalize w.alloc (.cells #[.int .i64 1, .int .i64 c.num, .string (tx c.text), .string (tx c.name), .string (tx c.desc)] 39) = wa at *
 with_reducible refine (wnumI w0.heap.size M pv 1 1 (lhid rfl) 1 o wa HW0 (by omega) (Nat.le_trans hs0 HB0.out.size) hBM (by omega)).mono ?_
 rintro e w1 ⟨rfl, h1, b1, s1⟩
 have HW1 := lhid h1
 have HB1 := lhid (HB0.out.trans b1)
 have HS1 := lhid (HS0.out.trans s1)
 have HX1 := lhid (s1 _ _ _ _ (by simp) HX0.out)
 clear h1 b1 s1
 have x0 := heap_cell (i := 0) HX1.out rfl
 have x2 := heap_cell (i := 2) HX1.out rfl
 go_wp2_with fail
 have HT1 : Hid ((tx c.text).size = c.text.length) := lhid hts
 have hl1 : (wNum 1 1 o).1.length ≤ 70368744177664 := by rw [wNum_len]; omega
 with_reducible refine (wnumI w0.heap.size M pv 2 2 (lhid rfl) _ _ w1 HW1 (by omega) (Nat.le_trans hs0 HB1.out.size) hBM hl1).mono ?_
 rintro e w2 ⟨rfl, h2, b2, s2⟩
 have HB2 := lhid (HB1.out.trans b2)
 have HS2 := lhid (HS1.out.trans s2)
 have HX2 := lhid (s2 _ _ _ _ (by simp) HX1.out)
 obtain ⟨v, hm, hw⟩ := h2
 have hlen2 : (wNum 2 c.text.length (wNum 1 1 o)).1.length = o.1.length + 3 := by rw [wNum_len, wNum_len]
 obtain ⟨l2, hl2⟩ : ∃ l2, (wNum 2 c.text.length (wNum 1 1 o)).1 = l2 := ⟨_, rfl⟩
 have hm2 : (wNum 2 c.text.length (wNum 1 1 o)).2 = o.2 := rfl
 rw [hl2] at hw hlen2
 have HL2 := lhid hl2
 have hle2 : l2.length ≤ 1000000003 := by omega
 clear hlen2
 rw [hm2] at hm
 obtain ⟨A2, c2, rfl⟩ := own_shape hw
 have HM2 := lhid hm
 have HW2 := lhid hw
 clear hm hw hm2 hl2 b2 s2 x0 x2 hl1 HX1
 have x2 := heap_cell (i := 2) HX2.out rfl
 have m0 := heap_cell (i := 0) HM2.out rfl
 have mz := heap_thaw HM2.out 0
 have HMd : Hid (w2.drew.heap[M]? = some (.cells #[.slice A2 l2.length c2, pv, .bool o.2] 52 (0, 0))) := lhid HM2.out
 have HWd : Hid (w2.drew.ownsRow w0.heap.size 5 1 (.slice A2 l2.length c2) l2.length (byV l2)) := lhid (own_far HW2.out (w' := w2.drew) fun _ _ => rfl)
 go_upto_region 8 with fail
 refine wp_region_any (by kernel_rfl) ?_
 try (change wpAny _ _ _ _ _ _ _ (World.drew _))
 refine wpAny_take (i := 0) (v := ?v0_1) rfl (by kernel_rfl) (by kernel_rfl) (by kernel_rfl) (fun _ _ _ h => h) (Or.inl ⟨by rfl, ?hy0_1⟩) ?rest0_1
 case hy0_1 => intro w; (first | (go_simp; done) | (go_simp; with_reducible rfl))
 refine wpAny_take (i := 1) (v := ?v1_2) rfl (by kernel_rfl) (by kernel_rfl) (by kernel_rfl) (fun _ _ _ h => h) (Or.inl ⟨by rfl, ?hy1_2⟩) ?rest1_2
 case hy1_2 => intro w; (first | (go_simp; done) | (go_simp; with_reducible rfl))
 refine wpAny_take (i := 2) (v := ?v2_3) rfl (by kernel_rfl) (by kernel_rfl) (by kernel_rfl) (fun _ _ _ h => h) (Or.inl ⟨by rfl, ?hy2_3⟩) ?rest2_3
 case hy2_3 => intro w; (first | (go_simp; done) | (go_simp; with_reducible rfl))
 refine wpAny_take (i := 3) (v := ?v3_4) rfl (by kernel_rfl) (by kernel_rfl) (by kernel_rfl) (fun _ _ _ h => h) (Or.inl ⟨by rfl, ?hy3_4⟩) ?rest3_4
 case hy3_4 => intro w; (first | (go_simp; done) | (go_simp; with_reducible rfl))
 refine wpAny_take (i := 5) (v := ?v5_5) rfl (by kernel_rfl) (by kernel_rfl) (by kernel_rfl) (fun _ _ _ h => h) (Or.inl ⟨by rfl, ?hy5_5⟩) ?rest5_5
 case hy5_5 => intro w; (first | (go_simp; done) | (go_simp; with_reducible rfl))
 refine wpAny_ready (rs := [4, 6]) (by kernel_rfl) (by simp) ?_
 refine AllReady.cons rfl (fun K hK => ?_) (AllReady.cons rfl (fun K hK => ?_) AllReady.nil)
 ·go_simp
  refine hK _ _ ?_
  clear hK K
  refine wpAny_ready (rs := [6]) (by kernel_rfl) (by simp) ?_
  refine AllReady.cons rfl (fun K hK => ?_) AllReady.nil
  go_simp
  refine hK _ _ ?_
  clear hK K
  refine wpAny_ready (rs := [7]) (by kernel_rfl) (by simp) ?_
  refine AllReady.cons rfl (fun K hK => ?_) AllReady.nil
  refine step_append_str rfl (.tmp 39) (.tmp 41) 28 9 rfl w0.heap.size 5 i0 Tryz.underlying28 Tryz.underlying9 hi0 hz0 hz1 hz2 (.slice A2 l2.length c2) l2.length (byV l2) rfl HWd.out (tx c.text) rfl (by rw [hts]; unfold maxLen; omega) (by rw [hts]; omega) (Nat.le_trans hs0 HB2.out.size) ?_
  intro v' w3 hown hgrow
  have hge := own_lt HWd.out
  have hM3 : w3.heap[M]? = some (.cells #[.slice A2 l2.length c2, pv, .bool o.2] 52 (0, 0)) := (grown_stay (Ts := [52]) hgrow HWd.out (by decide)) M _ _ _ (by simp) HMd.out
  have HS3 := lhid ((HS2.out.drew).trans (grown_stay hgrow HWd.out (by decide)))
  have HB3 := lhid ((HB2.out.drew).trans (grownBelow hgrow hge (Nat.le_trans hs0 HB2.out.size)))
  have HO3 := lhid hown
  have q3 := heap_cell (i := 0) hM3 rfl
  have z3 := heap_thaw hM3 0
  have HM3 := lhid hM3
  clear hown hgrow hge hM3
  obtain ⟨A3, c3, rfl⟩ := own_shape HO3.out
  refine hK _ _ ?_
  clear hK K
  refine wpAny_take (i := 8) (v := ?v8_6) rfl (by kernel_rfl) (by kernel_rfl) (by kernel_rfl) (fun _ _ _ h => h) (Or.inl ⟨by rfl, ?hy8_6⟩) ?rest8_6
  case hy8_6 => intro w; (first | (go_simp; done) | (go_simp; with_reducible rfl))
  refine wpAny_take (i := 9) (v := ?v9_7) rfl (by kernel_rfl) (by kernel_rfl) (by kernel_rfl) (fun _ _ _ h => h) (Or.inl ⟨by rfl, ?hy9_7⟩) ?rest9_7
  case hy9_7 => intro w; (first | (go_simp; done) | (go_simp; with_reducible rfl))
  refine wpAny_ready (rs := [10]) (by kernel_rfl) (by simp) ?_
  refine AllReady.cons rfl (fun K hK => ?_) AllReady.nil
  go_simp
  refine hK _ _ ?_
  clear hK K
  refine wpAny_done (by kernel_rfl) ?_ _
  go_wp2_with fail
  go_end0
  have hbv : byV (l2 ++ c.text) = byV l2 ++ Lib.strCells (tx c.text) := by rw [byV_app]; rfl
  have hln : (l2 ++ c.text).length = l2.length + (tx c.text).size := by rw [List.length_append, hts]
  refine ⟨rfl, ⟨.slice A3 (l2.length + (tx c.text).size) c3, ?_, ?_⟩, HB3.out.setCell (p := ⟨M, 0, none⟩) hBM _, HS3.out.set (p := ⟨M, 0, none⟩) HM3.out (by decide) _⟩
  ·exact heap_set HM3.out _
  ·rw [HL2.out, hbv, hln]
   exact own_stay HO3.out ((Stay.refl [5] w3).set (p := ⟨M, 0, none⟩) HM3.out (by decide) _) (by simp)
 ·go_simp
  refine hK _ _ ?_
  clear hK K
  refine wpAny_ready (rs := [4]) (by kernel_rfl) (by simp) ?_
  refine AllReady.cons rfl (fun K hK => ?_) AllReady.nil
  go_simp
  refine hK _ _ ?_
  clear hK K
  refine wpAny_ready (rs := [7]) (by kernel_rfl) (by simp) ?_
  refine AllReady.cons rfl (fun K hK => ?_) AllReady.nil
  refine step_append_str rfl (.tmp 39) (.tmp 41) 28 9 rfl w0.heap.size 5 i0 Tryz.underlying28 Tryz.underlying9 hi0 hz0 hz1 hz2 (.slice A2 l2.length c2) l2.length (byV l2) rfl HWd.out (tx c.text) rfl (by rw [hts]; unfold maxLen; omega) (by rw [hts]; omega) (Nat.le_trans hs0 HB2.out.size) ?_
  intro v' w3 hown hgrow
  have hge := own_lt HWd.out
  have hM3 : w3.heap[M]? = some (.cells #[.slice A2 l2.length c2, pv, .bool o.2] 52 (0, 0)) := (grown_stay (Ts := [52]) hgrow HWd.out (by decide)) M _ _ _ (by simp) HMd.out
  have HS3 := lhid ((HS2.out.drew).trans (grown_stay hgrow HWd.out (by decide)))
  have HB3 := lhid ((HB2.out.drew).trans (grownBelow hgrow hge (Nat.le_trans hs0 HB2.out.size)))
  have HO3 := lhid hown
  have q3 := heap_cell (i := 0) hM3 rfl
  have z3 := heap_thaw hM3 0
  have HM3 := lhid hM3
  clear hown hgrow hge hM3
  obtain ⟨A3, c3, rfl⟩ := own_shape HO3.out
  refine hK _ _ ?_
  clear hK K
  refine wpAny_take (i := 8) (v := ?v8_8) rfl (by kernel_rfl) (by kernel_rfl) (by kernel_rfl) (fun _ _ _ h => h) (Or.inl ⟨by rfl, ?hy8_8⟩) ?rest8_8
  case hy8_8 => intro w; (first | (go_simp; done) | (go_simp; with_reducible rfl))
  refine wpAny_take (i := 9) (v := ?v9_9) rfl (by kernel_rfl) (by kernel_rfl) (by kernel_rfl) (fun _ _ _ h => h) (Or.inl ⟨by rfl, ?hy9_9⟩) ?rest9_9
  case hy9_9 => intro w; (first | (go_simp; done) | (go_simp; with_reducible rfl))
  refine wpAny_ready (rs := [10]) (by kernel_rfl) (by simp) ?_
  refine AllReady.cons rfl (fun K hK => ?_) AllReady.nil
  go_simp
  refine hK _ _ ?_
  clear hK K
  refine wpAny_done (by kernel_rfl) ?_ _
  go_wp2_with fail
  go_end0
  have hbv : byV (l2 ++ c.text) = byV l2 ++ Lib.strCells (tx c.text) := by rw [byV_app]; rfl
  have hln : (l2 ++ c.text).length = l2.length + (tx c.text).size := by rw [List.length_append, hts]
  refine ⟨rfl, ⟨.slice A3 (l2.length + (tx c.text).size) c3, ?_, ?_⟩, HB3.out.setCell (p := ⟨M, 0, none⟩) hBM _, HS3.out.set (p := ⟨M, 0, none⟩) HM3.out (by decide) _⟩
  ·exact heap_set HM3.out _
  ·rw [HL2.out, hbv, hln]
   exact own_stay HO3.out ((Stay.refl [5] w3).set (p := ⟨M, 0, none⟩) HM3.out (by decide) _) (by simp)
end Go.Proofs.YtgihfcimngogfaaGreat
namespace Go.Proofs.YtgihfcimngogfaaGreat
open Go.RowKit Go
set_option linter.unusedVariables false
def WoS (B M : Nat) (pv : Value) (n : Nat) (w : World) : Prop := ∃ o : Ou, Wo B M pv w o ∧ o.1.length ≤ n
theorem WoS.le {B M : Nat} {pv : Value} {n n' : Nat} {w : World} (h : WoS B M pv n w) (hn : n ≤ n') : WoS B M pv n' w := by
 obtain ⟨o, h1, h2⟩ := h
 exact ⟨o, h1, by omega⟩
theorem WoS.below {B M : Nat} {pv : Value} {n : Nat} {w w' : World} (h : WoS B M pv n w) (hb : Below w.heap.size w w') : WoS B M pv n w' := by
 obtain ⟨o, h1, h2⟩ := h
 exact ⟨o, h1.below hb, h2⟩
theorem num_s (B M : Nat) (pv : Value) (k n : Nat) (k' x : Int) (w : World) (h : Hid (WoS B M pv n w)) (hk : Hid (k' = k)) (hk8 : k ≤ 8) (hB : Hid (B ≤ w.heap.size)) (hBM : Hid (B ≤ M)) (hn : Hid (n ≤ 70368744177664)) :
  Calls Tryz.prog 23 #[.pointer (some ⟨M, 0, none⟩), .int .i64 k', .int .i64 x] w fun e w' => e = .returned (.tuple #[]) ∧ WoS B M pv (n + k) w' ∧ Below B w w' ∧ Stay tW w w' := by
 obtain ⟨o, h1, h2⟩ := h.out
 refine (wnumI B M pv k k' hk x o w (lhid h1) hk8 hB.out hBM.out (by have := hn.out; omega)).mono ?_
 rintro e w' ⟨h3, h4, h5, h6⟩
 exact ⟨h3, ⟨_, h4, by rw [wNum_len]; omega⟩, h5, h6⟩
theorem find_s (B M : Nat) (pv : Value) (L : List CoI) (k : Int) (t : Bs) (n : Nat) (w : World) (h : Hid (WoS B M pv n w)) (hp : Hid (RdL 5 CoIE w pv L)) (hB : Hid (B ≤ w.heap.size)) (hBM : Hid (B ≤ M)) :
  Calls Tryz.prog 25 #[.pointer (some ⟨M, 0, none⟩), .int .i64 k, .string (tx t)] w fun e w' => (∃ z, e = .returned (.int .i64 z)) ∧ WoS B M pv n w' ∧ Below B w w' ∧ Stay tW w w' := by
 obtain ⟨o, h1, h2⟩ := h.out
 refine (wfind_any B M pv L k t o w (lhid h1) hp hB.out hBM.out).mono ?_
 rintro e w' ⟨h3, h4, h5, h6⟩
 exact ⟨⟨_, h3⟩, ⟨_, h4, by rw [wFind_len]; exact h2⟩, h5, h6⟩
set_option maxHeartbeats 8000000 in
set_option maxRecDepth 100000 in
theorem con_3 (w0 : World) (M : Nat) (pv : Value) (L : List CoI) (c : CoI) (n : Nat) (w : World) (h : Hid (WoS w0.heap.size M pv n w)) (hp : Hid (RdL 5 CoIE w0 pv L)) (hb : Hid (Below w0.heap.size w0 w)) (hBM : Hid (w0.heap.size ≤ M)) (hn : Hid (n ≤ 1000000000)) (k1 : (c.kind == 1) = false) (k3 : (c.kind == 3) = true) :
  Calls Tryz.prog 24 #[.pointer (some ⟨M, 0, none⟩), .agg #[.int .i64 c.kind, .int .i64 c.num, .string (tx c.text), .string (tx c.name), .string (tx c.desc)]] w fun e w' => e = .returned (.tuple #[]) ∧ WoS w0.heap.size M pv (n + 8 + c.text.length + 8) w' ∧ Below w0.heap.size w w' ∧ Stay tW w w' := by
 have hs0 := hb.out.size
 have HB0 : Hid (Below w0.heap.size w (w.alloc (.cells #[.int .i64 c.kind, .int .i64 c.num, .string (tx c.text), .string (tx c.name), .string (tx c.desc)] 39))) := lhid ((Below.refl _ w).alloc hs0 _)
 have HW0 := lhid (h.out.below ((Below.refl w.heap.size w).alloc (Nat.le_refl _) (.cells #[.int .i64 c.kind, .int .i64 c.num, .string (tx c.text), .string (tx c.name), .string (tx c.desc)] 39)))
 have HX0 := lhid (heap_alloc_new w (.cells #[.int .i64 c.kind, .int .i64 c.num, .string (tx c.text), .string (tx c.name), .string (tx c.desc)] 39))
 have HS0 := lhid ((Stay.refl tW w).alloc (.cells #[.int .i64 c.kind, .int .i64 c.num, .string (tx c.text), .string (tx c.name), .string (tx c.desc)] 39))
 have HZ0 : Hid (w0.heap.size ≤ (w.alloc (.cells #[.int .i64 c.kind, .int .i64 c.num, .string (tx c.text), .string (tx c.name), .string (tx c.desc)] 39)).heap.size) := lhid (Nat.le_trans hs0 HB0.out.size)
 go_enter Tryz.func24, Tryz.ntmps24
 go_wp2_with fail
 generalize w.alloc (.cells #[.int .i64 c.kind, .int .i64 c.num, .string (tx c.text), .string (tx c.name), .string (tx c.desc)] 39) = wa0 at *
 with_reducible refine (num_s w0.heap.size M pv 1 (n) 1 c.kind wa0 HW0 (lhid rfl) (by omega) HZ0 hBM (lhid (by have := hn.out; omega))).mono ?_
 rintro e wa1 ⟨rfl, h1, b1, s1⟩
 have HW1 := lhid h1
 have HB1 := lhid (HB0.out.trans b1)
 have HS1 := lhid (HS0.out.trans s1)
 have HX1 := lhid (s1 _ _ _ _ (by simp) HX0.out)
 have HZ1 := lhid (Nat.le_trans hs0 HB1.out.size)
 clear h1 b1 s1
 have x0 := heap_cell (i := 0) HX1.out rfl
 have x1 := heap_cell (i := 1) HX1.out rfl
 have x2 := heap_cell (i := 2) HX1.out rfl
 have x3 := heap_cell (i := 3) HX1.out rfl
 have x4 := heap_cell (i := 4) HX1.out rfl
 go_wp2_with fail
 with_reducible refine (num_s w0.heap.size M pv 4 (n + 1) 4 c.num wa1 HW1 (lhid rfl) (by omega) HZ1 hBM (lhid (by have := hn.out; omega))).mono ?_
 clear x0 x1 x2 x3 x4
 rintro e wa2 ⟨rfl, h1, b1, s1⟩
 have HW2 := lhid h1
 have HB2 := lhid (HB1.out.trans b1)
 have HS2 := lhid (HS1.out.trans s1)
 have HX2 := lhid (s1 _ _ _ _ (by simp) HX1.out)
 have HZ2 := lhid (Nat.le_trans hs0 HB2.out.size)
 clear h1 b1 s1
 have x0 := heap_cell (i := 0) HX2.out rfl
 have x1 := heap_cell (i := 1) HX2.out rfl
 have x2 := heap_cell (i := 2) HX2.out rfl
 have x3 := heap_cell (i := 3) HX2.out rfl
 have x4 := heap_cell (i := 4) HX2.out rfl
 go_wp2_with fail
 go_end0
 exact ⟨rfl, HW2.out.le (by omega), HB2.out, HS2.out⟩
set_option maxHeartbeats 8000000 in
set_option maxRecDepth 100000 in
theorem con_5 (w0 : World) (M : Nat) (pv : Value) (L : List CoI) (c : CoI) (n : Nat) (w : World) (h : Hid (WoS w0.heap.size M pv n w)) (hp : Hid (RdL 5 CoIE w0 pv L)) (hb : Hid (Below w0.heap.size w0 w)) (hBM : Hid (w0.heap.size ≤ M)) (hn : Hid (n ≤ 1000000000)) (k1 : (c.kind == 1) = false) (k3 : (c.kind == 3) = false) (k5 : (c.kind == 5) = true) :
  Calls Tryz.prog 24 #[.pointer (some ⟨M, 0, none⟩), .agg #[.int .i64 c.kind, .int .i64 c.num, .string (tx c.text), .string (tx c.name), .string (tx c.desc)]] w fun e w' => e = .returned (.tuple #[]) ∧ WoS w0.heap.size M pv (n + 8 + c.text.length + 8) w' ∧ Below w0.heap.size w w' ∧ Stay tW w w' := by
 have hs0 := hb.out.size
 have HB0 : Hid (Below w0.heap.size w (w.alloc (.cells #[.int .i64 c.kind, .int .i64 c.num, .string (tx c.text), .string (tx c.name), .string (tx c.desc)] 39))) := lhid ((Below.refl _ w).alloc hs0 _)
 have HW0 := lhid (h.out.below ((Below.refl w.heap.size w).alloc (Nat.le_refl _) (.cells #[.int .i64 c.kind, .int .i64 c.num, .string (tx c.text), .string (tx c.name), .string (tx c.desc)] 39)))
 have HX0 := lhid (heap_alloc_new w (.cells #[.int .i64 c.kind, .int .i64 c.num, .string (tx c.text), .string (tx c.name), .string (tx c.desc)] 39))
 have HS0 := lhid ((Stay.refl tW w).alloc (.cells #[.int .i64 c.kind, .int .i64 c.num, .string (tx c.text), .string (tx c.name), .string (tx c.desc)] 39))
 have HZ0 : Hid (w0.heap.size ≤ (w.alloc (.cells #[.int .i64 c.kind, .int .i64 c.num, .string (tx c.text), .string (tx c.name), .string (tx c.desc)] 39)).heap.size) := lhid (Nat.le_trans hs0 HB0.out.size)
 go_enter Tryz.func24, Tryz.ntmps24
 go_wp2_with fail
 generalize w.alloc (.cells #[.int .i64 c.kind, .int .i64 c.num, .string (tx c.text), .string (tx c.name), .string (tx c.desc)] 39) = wa0 at *
 with_reducible refine (num_s w0.heap.size M pv 1 (n) 1 c.kind wa0 HW0 (lhid rfl) (by omega) HZ0 hBM (lhid (by have := hn.out; omega))).mono ?_
 rintro e wa1 ⟨rfl, h1, b1, s1⟩
 have HW1 := lhid h1
 have HB1 := lhid (HB0.out.trans b1)
 have HS1 := lhid (HS0.out.trans s1)
 have HX1 := lhid (s1 _ _ _ _ (by simp) HX0.out)
 have HZ1 := lhid (Nat.le_trans hs0 HB1.out.size)
 clear h1 b1 s1
 have x0 := heap_cell (i := 0) HX1.out rfl
 have x1 := heap_cell (i := 1) HX1.out rfl
 have x2 := heap_cell (i := 2) HX1.out rfl
 have x3 := heap_cell (i := 3) HX1.out rfl
 have x4 := heap_cell (i := 4) HX1.out rfl
 go_wp2_with fail
 with_reducible refine (num_s w0.heap.size M pv 8 (n + 1) 8 c.num wa1 HW1 (lhid rfl) (by omega) HZ1 hBM (lhid (by have := hn.out; omega))).mono ?_
 clear x0 x1 x2 x3 x4
 rintro e wa2 ⟨rfl, h1, b1, s1⟩
 have HW2 := lhid h1
 have HB2 := lhid (HB1.out.trans b1)
 have HS2 := lhid (HS1.out.trans s1)
 have HX2 := lhid (s1 _ _ _ _ (by simp) HX1.out)
 have HZ2 := lhid (Nat.le_trans hs0 HB2.out.size)
 clear h1 b1 s1
 have x0 := heap_cell (i := 0) HX2.out rfl
 have x1 := heap_cell (i := 1) HX2.out rfl
 have x2 := heap_cell (i := 2) HX2.out rfl
 have x3 := heap_cell (i := 3) HX2.out rfl
 have x4 := heap_cell (i := 4) HX2.out rfl
 go_wp2_with fail
 go_end0
 exact ⟨rfl, HW2.out.le (by omega), HB2.out, HS2.out⟩
set_option maxHeartbeats 8000000 in
set_option maxRecDepth 100000 in
theorem con_7 (w0 : World) (M : Nat) (pv : Value) (L : List CoI) (c : CoI) (n : Nat) (w : World) (h : Hid (WoS w0.heap.size M pv n w)) (hp : Hid (RdL 5 CoIE w0 pv L)) (hb : Hid (Below w0.heap.size w0 w)) (hBM : Hid (w0.heap.size ≤ M)) (hn : Hid (n ≤ 1000000000)) (k1 : (c.kind == 1) = false) (k3 : (c.kind == 3) = false) (k5 : (c.kind == 5) = false) (k7 : (c.kind == 7) = true) :
  Calls Tryz.prog 24 #[.pointer (some ⟨M, 0, none⟩), .agg #[.int .i64 c.kind, .int .i64 c.num, .string (tx c.text), .string (tx c.name), .string (tx c.desc)]] w fun e w' => e = .returned (.tuple #[]) ∧ WoS w0.heap.size M pv (n + 8 + c.text.length + 8) w' ∧ Below w0.heap.size w w' ∧ Stay tW w w' := by
 have hs0 := hb.out.size
 have HB0 : Hid (Below w0.heap.size w (w.alloc (.cells #[.int .i64 c.kind, .int .i64 c.num, .string (tx c.text), .string (tx c.name), .string (tx c.desc)] 39))) := lhid ((Below.refl _ w).alloc hs0 _)
 have HW0 := lhid (h.out.below ((Below.refl w.heap.size w).alloc (Nat.le_refl _) (.cells #[.int .i64 c.kind, .int .i64 c.num, .string (tx c.text), .string (tx c.name), .string (tx c.desc)] 39)))
 have HX0 := lhid (heap_alloc_new w (.cells #[.int .i64 c.kind, .int .i64 c.num, .string (tx c.text), .string (tx c.name), .string (tx c.desc)] 39))
 have HS0 := lhid ((Stay.refl tW w).alloc (.cells #[.int .i64 c.kind, .int .i64 c.num, .string (tx c.text), .string (tx c.name), .string (tx c.desc)] 39))
 have HZ0 : Hid (w0.heap.size ≤ (w.alloc (.cells #[.int .i64 c.kind, .int .i64 c.num, .string (tx c.text), .string (tx c.name), .string (tx c.desc)] 39)).heap.size) := lhid (Nat.le_trans hs0 HB0.out.size)
 go_enter Tryz.func24, Tryz.ntmps24
 go_wp2_with fail
 generalize w.alloc (.cells #[.int .i64 c.kind, .int .i64 c.num, .string (tx c.text), .string (tx c.name), .string (tx c.desc)] 39) = wa0 at *
 with_reducible refine (num_s w0.heap.size M pv 1 (n) 1 c.kind wa0 HW0 (lhid rfl) (by omega) HZ0 hBM (lhid (by have := hn.out; omega))).mono ?_
 rintro e wa1 ⟨rfl, h1, b1, s1⟩
 have HW1 := lhid h1
 have HB1 := lhid (HB0.out.trans b1)
 have HS1 := lhid (HS0.out.trans s1)
 have HX1 := lhid (s1 _ _ _ _ (by simp) HX0.out)
 have HZ1 := lhid (Nat.le_trans hs0 HB1.out.size)
 clear h1 b1 s1
 have x0 := heap_cell (i := 0) HX1.out rfl
 have x1 := heap_cell (i := 1) HX1.out rfl
 have x2 := heap_cell (i := 2) HX1.out rfl
 have x3 := heap_cell (i := 3) HX1.out rfl
 have x4 := heap_cell (i := 4) HX1.out rfl
 go_wp2_with fail
 with_reducible refine (find_s w0.heap.size M pv L 1 c.text (n + 1) wa1 HW1 (lhid (hp.out.below kept_co (hb.out.trans HB1.out))) HZ1 hBM).mono ?_
 clear x0 x1 x2 x3 x4
 rintro e wa2 ⟨⟨z1, rfl⟩, h1, b1, s1⟩
 have HW2 := lhid h1
 have HB2 := lhid (HB1.out.trans b1)
 have HS2 := lhid (HS1.out.trans s1)
 have HX2 := lhid (s1 _ _ _ _ (by simp) HX1.out)
 have HZ2 := lhid (Nat.le_trans hs0 HB2.out.size)
 clear h1 b1 s1
 have x0 := heap_cell (i := 0) HX2.out rfl
 have x1 := heap_cell (i := 1) HX2.out rfl
 have x2 := heap_cell (i := 2) HX2.out rfl
 have x3 := heap_cell (i := 3) HX2.out rfl
 have x4 := heap_cell (i := 4) HX2.out rfl
 go_wp2_with fail
 with_reducible refine (num_s w0.heap.size M pv 2 (n + 1) 2 z1 wa2 HW2 (lhid rfl) (by omega) HZ2 hBM (lhid (by have := hn.out; omega))).mono ?_
 clear x0 x1 x2 x3 x4
 rintro e wa3 ⟨rfl, h1, b1, s1⟩
 have HW3 := lhid h1
 have HB3 := lhid (HB2.out.trans b1)
 have HS3 := lhid (HS2.out.trans s1)
 have HX3 := lhid (s1 _ _ _ _ (by simp) HX2.out)
 have HZ3 := lhid (Nat.le_trans hs0 HB3.out.size)
 clear h1 b1 s1
 have x0 := heap_cell (i := 0) HX3.out rfl
 have x1 := heap_cell (i := 1) HX3.out rfl
 have x2 := heap_cell (i := 2) HX3.out rfl
 have x3 := heap_cell (i := 3) HX3.out rfl
 have x4 := heap_cell (i := 4) HX3.out rfl
 go_wp2_with fail
 go_end0
 exact ⟨rfl, HW3.out.le (by omega), HB3.out, HS3.out⟩
set_option maxHeartbeats 8000000 in
set_option maxRecDepth 100000 in
theorem con_8 (w0 : World) (M : Nat) (pv : Value) (L : List CoI) (c : CoI) (n : Nat) (w : World) (h : Hid (WoS w0.heap.size M pv n w)) (hp : Hid (RdL 5 CoIE w0 pv L)) (hb : Hid (Below w0.heap.size w0 w)) (hBM : Hid (w0.heap.size ≤ M)) (hn : Hid (n ≤ 1000000000)) (k1 : (c.kind == 1) = false) (k3 : (c.kind == 3) = false) (k5 : (c.kind == 5) = false) (k7 : (c.kind == 7) = false) (k8 : (c.kind == 8) = true) :
  Calls Tryz.prog 24 #[.pointer (some ⟨M, 0, none⟩), .agg #[.int .i64 c.kind, .int .i64 c.num, .string (tx c.text), .string (tx c.name), .string (tx c.desc)]] w fun e w' => e = .returned (.tuple #[]) ∧ WoS w0.heap.size M pv (n + 8 + c.text.length + 8) w' ∧ Below w0.heap.size w w' ∧ Stay tW w w' := by
 have hs0 := hb.out.size
 have HB0 : Hid (Below w0.heap.size w (w.alloc (.cells #[.int .i64 c.kind, .int .i64 c.num, .string (tx c.text), .string (tx c.name), .string (tx c.desc)] 39))) := lhid ((Below.refl _ w).alloc hs0 _)
 have HW0 := lhid (h.out.below ((Below.refl w.heap.size w).alloc (Nat.le_refl _) (.cells #[.int .i64 c.kind, .int .i64 c.num, .string (tx c.text), .string (tx c.name), .string (tx c.desc)] 39)))
 have HX0 := lhid (heap_alloc_new w (.cells #[.int .i64 c.kind, .int .i64 c.num, .string (tx c.text), .string (tx c.name), .string (tx c.desc)] 39))
 have HS0 := lhid ((Stay.refl tW w).alloc (.cells #[.int .i64 c.kind, .int .i64 c.num, .string (tx c.text), .string (tx c.name), .string (tx c.desc)] 39))
 have HZ0 : Hid (w0.heap.size ≤ (w.alloc (.cells #[.int .i64 c.kind, .int .i64 c.num, .string (tx c.text), .string (tx c.name), .string (tx c.desc)] 39)).heap.size) := lhid (Nat.le_trans hs0 HB0.out.size)
 go_enter Tryz.func24, Tryz.ntmps24
 go_wp2_with fail
 generalize w.alloc (.cells #[.int .i64 c.kind, .int .i64 c.num, .string (tx c.text), .string (tx c.name), .string (tx c.desc)] 39) = wa0 at *
 with_reducible refine (num_s w0.heap.size M pv 1 (n) 1 c.kind wa0 HW0 (lhid rfl) (by omega) HZ0 hBM (lhid (by have := hn.out; omega))).mono ?_
 rintro e wa1 ⟨rfl, h1, b1, s1⟩
 have HW1 := lhid h1
 have HB1 := lhid (HB0.out.trans b1)
 have HS1 := lhid (HS0.out.trans s1)
 have HX1 := lhid (s1 _ _ _ _ (by simp) HX0.out)
 have HZ1 := lhid (Nat.le_trans hs0 HB1.out.size)
 clear h1 b1 s1
 have x0 := heap_cell (i := 0) HX1.out rfl
 have x1 := heap_cell (i := 1) HX1.out rfl
 have x2 := heap_cell (i := 2) HX1.out rfl
 have x3 := heap_cell (i := 3) HX1.out rfl
 have x4 := heap_cell (i := 4) HX1.out rfl
 go_wp2_with fail
 with_reducible refine (find_s w0.heap.size M pv L 1 c.text (n + 1) wa1 HW1 (lhid (hp.out.below kept_co (hb.out.trans HB1.out))) HZ1 hBM).mono ?_
 clear x0 x1 x2 x3 x4
 rintro e wa2 ⟨⟨z1, rfl⟩, h1, b1, s1⟩
 have HW2 := lhid h1
 have HB2 := lhid (HB1.out.trans b1)
 have HS2 := lhid (HS1.out.trans s1)
 have HX2 := lhid (s1 _ _ _ _ (by simp) HX1.out)
 have HZ2 := lhid (Nat.le_trans hs0 HB2.out.size)
 clear h1 b1 s1
 have x0 := heap_cell (i := 0) HX2.out rfl
 have x1 := heap_cell (i := 1) HX2.out rfl
 have x2 := heap_cell (i := 2) HX2.out rfl
 have x3 := heap_cell (i := 3) HX2.out rfl
 have x4 := heap_cell (i := 4) HX2.out rfl
 go_wp2_with fail
 with_reducible refine (num_s w0.heap.size M pv 2 (n + 1) 2 z1 wa2 HW2 (lhid rfl) (by omega) HZ2 hBM (lhid (by have := hn.out; omega))).mono ?_
 clear x0 x1 x2 x3 x4
 rintro e wa3 ⟨rfl, h1, b1, s1⟩
 have HW3 := lhid h1
 have HB3 := lhid (HB2.out.trans b1)
 have HS3 := lhid (HS2.out.trans s1)
 have HX3 := lhid (s1 _ _ _ _ (by simp) HX2.out)
 have HZ3 := lhid (Nat.le_trans hs0 HB3.out.size)
 clear h1 b1 s1
 have x0 := heap_cell (i := 0) HX3.out rfl
 have x1 := heap_cell (i := 1) HX3.out rfl
 have x2 := heap_cell (i := 2) HX3.out rfl
 have x3 := heap_cell (i := 3) HX3.out rfl
 have x4 := heap_cell (i := 4) HX3.out rfl
 go_wp2_with fail
 go_end0
 exact ⟨rfl, HW3.out.le (by omega), HB3.out, HS3.out⟩
set_option maxHeartbeats 8000000 in
set_option maxRecDepth 100000 in
theorem con_9 (w0 : World) (M : Nat) (pv : Value) (L : List CoI) (c : CoI) (n : Nat) (w : World) (h : Hid (WoS w0.heap.size M pv n w)) (hp : Hid (RdL 5 CoIE w0 pv L)) (hb : Hid (Below w0.heap.size w0 w)) (hBM : Hid (w0.heap.size ≤ M)) (hn : Hid (n ≤ 1000000000)) (k1 : (c.kind == 1) = false) (k3 : (c.kind == 3) = false) (k5 : (c.kind == 5) = false) (k7 : (c.kind == 7) = false) (k8 : (c.kind == 8) = false) :
  Calls Tryz.prog 24 #[.pointer (some ⟨M, 0, none⟩), .agg #[.int .i64 c.kind, .int .i64 c.num, .string (tx c.text), .string (tx c.name), .string (tx c.desc)]] w fun e w' => e = .returned (.tuple #[]) ∧ WoS w0.heap.size M pv (n + 8 + c.text.length + 8) w' ∧ Below w0.heap.size w w' ∧ Stay tW w w' := by
 have hs0 := hb.out.size
 have HB0 : Hid (Below w0.heap.size w (w.alloc (.cells #[.int .i64 c.kind, .int .i64 c.num, .string (tx c.text), .string (tx c.name), .string (tx c.desc)] 39))) := lhid ((Below.refl _ w).alloc hs0 _)
 have HW0 := lhid (h.out.below ((Below.refl w.heap.size w).alloc (Nat.le_refl _) (.cells #[.int .i64 c.kind, .int .i64 c.num, .string (tx c.text), .string (tx c.name), .string (tx c.desc)] 39)))
 have HX0 := lhid (heap_alloc_new w (.cells #[.int .i64 c.kind, .int .i64 c.num, .string (tx c.text), .string (tx c.name), .string (tx c.desc)] 39))
 have HS0 := lhid ((Stay.refl tW w).alloc (.cells #[.int .i64 c.kind, .int .i64 c.num, .string (tx c.text), .string (tx c.name), .string (tx c.desc)] 39))
 have HZ0 : Hid (w0.heap.size ≤ (w.alloc (.cells #[.int .i64 c.kind, .int .i64 c.num, .string (tx c.text), .string (tx c.name), .string (tx c.desc)] 39)).heap.size) := lhid (Nat.le_trans hs0 HB0.out.size)
 go_enter Tryz.func24, Tryz.ntmps24
 go_wp2_with fail
 generalize w.alloc (.cells #[.int .i64 c.kind, .int .i64 c.num, .string (tx c.text), .string (tx c.name), .string (tx c.desc)] 39) = wa0 at *
 with_reducible refine (num_s w0.heap.size M pv 1 (n) 1 c.kind wa0 HW0 (lhid rfl) (by omega) HZ0 hBM (lhid (by have := hn.out; omega))).mono ?_
 rintro e wa1 ⟨rfl, h1, b1, s1⟩
 have HW1 := lhid h1
 have HB1 := lhid (HB0.out.trans b1)
 have HS1 := lhid (HS0.out.trans s1)
 have HX1 := lhid (s1 _ _ _ _ (by simp) HX0.out)
 have HZ1 := lhid (Nat.le_trans hs0 HB1.out.size)
 clear h1 b1 s1
 have x0 := heap_cell (i := 0) HX1.out rfl
 have x1 := heap_cell (i := 1) HX1.out rfl
 have x2 := heap_cell (i := 2) HX1.out rfl
 have x3 := heap_cell (i := 3) HX1.out rfl
 have x4 := heap_cell (i := 4) HX1.out rfl
 go_wp2_with fail
 with_reducible refine (find_s w0.heap.size M pv L 7 c.text (n + 1) wa1 HW1 (lhid (hp.out.below kept_co (hb.out.trans HB1.out))) HZ1 hBM).mono ?_
 clear x0 x1 x2 x3 x4
 rintro e wa2 ⟨⟨z1, rfl⟩, h1, b1, s1⟩
 have HW2 := lhid h1
 have HB2 := lhid (HB1.out.trans b1)
 have HS2 := lhid (HS1.out.trans s1)
 have HX2 := lhid (s1 _ _ _ _ (by simp) HX1.out)
 have HZ2 := lhid (Nat.le_trans hs0 HB2.out.size)
 clear h1 b1 s1
 have x0 := heap_cell (i := 0) HX2.out rfl
 have x1 := heap_cell (i := 1) HX2.out rfl
 have x2 := heap_cell (i := 2) HX2.out rfl
 have x3 := heap_cell (i := 3) HX2.out rfl
 have x4 := heap_cell (i := 4) HX2.out rfl
 go_wp2_with fail
 with_reducible refine (num_s w0.heap.size M pv 2 (n + 1) 2 z1 wa2 HW2 (lhid rfl) (by omega) HZ2 hBM (lhid (by have := hn.out; omega))).mono ?_
 clear x0 x1 x2 x3 x4
 rintro e wa3 ⟨rfl, h1, b1, s1⟩
 have HW3 := lhid h1
 have HB3 := lhid (HB2.out.trans b1)
 have HS3 := lhid (HS2.out.trans s1)
 have HX3 := lhid (s1 _ _ _ _ (by simp) HX2.out)
 have HZ3 := lhid (Nat.le_trans hs0 HB3.out.size)
 clear h1 b1 s1
 have x0 := heap_cell (i := 0) HX3.out rfl
 have x1 := heap_cell (i := 1) HX3.out rfl
 have x2 := heap_cell (i := 2) HX3.out rfl
 have x3 := heap_cell (i := 3) HX3.out rfl
 have x4 := heap_cell (i := 4) HX3.out rfl
 go_wp2_with fail
 with_reducible refine (find_s w0.heap.size M pv L 1 c.name (n + 1 + 2) wa3 HW3 (lhid (hp.out.below kept_co (hb.out.trans HB3.out))) HZ3 hBM).mono ?_
 clear x0 x1 x2 x3 x4
 rintro e wa4 ⟨⟨z3, rfl⟩, h1, b1, s1⟩
 have HW4 := lhid h1
 have HB4 := lhid (HB3.out.trans b1)
 have HS4 := lhid (HS3.out.trans s1)
 have HX4 := lhid (s1 _ _ _ _ (by simp) HX3.out)
 have HZ4 := lhid (Nat.le_trans hs0 HB4.out.size)
 clear h1 b1 s1
 have x0 := heap_cell (i := 0) HX4.out rfl
 have x1 := heap_cell (i := 1) HX4.out rfl
 have x2 := heap_cell (i := 2) HX4.out rfl
 have x3 := heap_cell (i := 3) HX4.out rfl
 have x4 := heap_cell (i := 4) HX4.out rfl
 go_wp2_with fail
 with_reducible refine (num_s w0.heap.size M pv 2 (n + 1 + 2) 2 z3 wa4 HW4 (lhid rfl) (by omega) HZ4 hBM (lhid (by have := hn.out; omega))).mono ?_
 clear x0 x1 x2 x3 x4
 rintro e wa5 ⟨rfl, h1, b1, s1⟩
 have HW5 := lhid h1
 have HB5 := lhid (HB4.out.trans b1)
 have HS5 := lhid (HS4.out.trans s1)
 have HX5 := lhid (s1 _ _ _ _ (by simp) HX4.out)
 have HZ5 := lhid (Nat.le_trans hs0 HB5.out.size)
 clear h1 b1 s1
 have x0 := heap_cell (i := 0) HX5.out rfl
 have x1 := heap_cell (i := 1) HX5.out rfl
 have x2 := heap_cell (i := 2) HX5.out rfl
 have x3 := heap_cell (i := 3) HX5.out rfl
 have x4 := heap_cell (i := 4) HX5.out rfl
 go_wp2_with fail
 with_reducible refine (find_s w0.heap.size M pv L 1 c.desc (n + 1 + 2 + 2) wa5 HW5 (lhid (hp.out.below kept_co (hb.out.trans HB5.out))) HZ5 hBM).mono ?_
 clear x0 x1 x2 x3 x4
 rintro e wa6 ⟨⟨z5, rfl⟩, h1, b1, s1⟩
 have HW6 := lhid h1
 have HB6 := lhid (HB5.out.trans b1)
 have HS6 := lhid (HS5.out.trans s1)
 have HX6 := lhid (s1 _ _ _ _ (by simp) HX5.out)
 have HZ6 := lhid (Nat.le_trans hs0 HB6.out.size)
 clear h1 b1 s1
 have x0 := heap_cell (i := 0) HX6.out rfl
 have x1 := heap_cell (i := 1) HX6.out rfl
 have x2 := heap_cell (i := 2) HX6.out rfl
 have x3 := heap_cell (i := 3) HX6.out rfl
 have x4 := heap_cell (i := 4) HX6.out rfl
 go_wp2_with fail
 with_reducible refine (num_s w0.heap.size M pv 2 (n + 1 + 2 + 2) 2 z5 wa6 HW6 (lhid rfl) (by omega) HZ6 hBM (lhid (by have := hn.out; omega))).mono ?_
 clear x0 x1 x2 x3 x4
 rintro e wa7 ⟨rfl, h1, b1, s1⟩
 have HW7 := lhid h1
 have HB7 := lhid (HB6.out.trans b1)
 have HS7 := lhid (HS6.out.trans s1)
 have HX7 := lhid (s1 _ _ _ _ (by simp) HX6.out)
 have HZ7 := lhid (Nat.le_trans hs0 HB7.out.size)
 clear h1 b1 s1
 have x0 := heap_cell (i := 0) HX7.out rfl
 have x1 := heap_cell (i := 1) HX7.out rfl
 have x2 := heap_cell (i := 2) HX7.out rfl
 have x3 := heap_cell (i := 3) HX7.out rfl
 have x4 := heap_cell (i := 4) HX7.out rfl
 go_wp2_with fail
 go_end0
 exact ⟨rfl, HW7.out.le (by omega), HB7.out, HS7.out⟩
theorem con_s (w0 : World) (M : Nat) (pv : Value) (L : List CoI) (c : CoI) (n : Nat) (w : World) (h : Hid (WoS w0.heap.size M pv n w)) (hp : Hid (RdL 5 CoIE w0 pv L)) (hb : Hid (Below w0.heap.size w0 w)) (hBM : Hid (w0.heap.size ≤ M)) (hn : Hid (n ≤ 1000000000)) (ht : c.text.length ≤ 1000000000) :
  Calls Tryz.prog 24 #[.pointer (some ⟨M, 0, none⟩), .agg #[.int .i64 c.kind, .int .i64 c.num, .string (tx c.text), .string (tx c.name), .string (tx c.desc)]] w fun e w' => e = .returned (.tuple #[]) ∧ WoS w0.heap.size M pv (n + 8 + c.text.length + 8) w' ∧ Below w0.heap.size w w' ∧ Stay tW w w' := by
 cases k1 : (c.kind == 1)
 case true =>
  obtain ⟨o, h1, h2⟩ := h.out
  have hk : c.kind = 1 := by simpa using k1
  have hC : (wCon L c o).1.length = o.1.length + 3 + c.text.length := by
   unfold wCon
   rw [hk]
   show ((wNum 2 _ (wNum 1 1 o)).1 ++ c.text).length = _
   rw [List.length_append, wNum_len, wNum_len]
  refine (wcon_text w0 M pv L c o w (lhid h1) hb hBM.out (by have := hn.out; omega) ht (lhid hk)).mono ?_
  rintro e w' ⟨h3, h4, h5, h6⟩
  exact ⟨h3, ⟨_, h4, by rw [hC]; omega⟩, h5, h6⟩
 cases k3 : (c.kind == 3)
 case true => exact con_3 w0 M pv L c n w h hp hb hBM hn k1 k3
 cases k5 : (c.kind == 5)
 case true => exact con_5 w0 M pv L c n w h hp hb hBM hn k1 k3 k5
 cases k7 : (c.kind == 7)
 case true => exact con_7 w0 M pv L c n w h hp hb hBM hn k1 k3 k5 k7
 cases k8 : (c.kind == 8)
 case true => exact con_8 w0 M pv L c n w h hp hb hBM hn k1 k3 k5 k7 k8
 exact con_9 w0 M pv L c n w h hp hb hBM hn k1 k3 k5 k7 k8
end Go.Proofs.YtgihfcimngogfaaGreat
namespace Go.Proofs.YtgihfcimngogfaaGreat
open Go.RowKit Go
set_option linter.unusedVariables false
theorem find_S (B M : Nat) (pv : Value) (L : List CoI) (k : Int) (s : ByteArray) (n : Nat) (w : World) (h : Hid (WoS B M pv n w)) (hp : Hid (RdL 5 CoIE w pv L)) (hB : Hid (B ≤ w.heap.size)) (hBM : Hid (B ≤ M)) :
  Calls Tryz.prog 25 #[.pointer (some ⟨M, 0, none⟩), .int .i64 k, .string s] w fun e w' => (∃ z, e = .returned (.int .i64 z)) ∧ WoS B M pv n w' ∧ Below B w w' ∧ Stay tW w w' := by
 have := find_s B M pv L k s.data.toList n w h hp hB hBM
 rwa [tx_self] at this
set_option maxHeartbeats 8000000 in
set_option maxRecDepth 100000 in
theorem types_s (w0 : World) (M : Nat) (pv : Value) (L : List CoI) (l : List Bs) (v : Value) (n : Nat) (w : World) (h : Hid (WoS w0.heap.size M pv n w)) (hp : Hid (RdL 5 CoIE w0 pv L)) (hv : Hid (RdL 1 StIE w0 v l)) (hb : Hid (Below w0.heap.size w0 w)) (hBM : Hid (w0.heap.size ≤ M)) (hn : Hid (n ≤ 1000000000)) (hl : Hid (l.length ≤ 1000000000)) (ht : Hid (∀ t ∈ l, t.length ≤ 1000000000)) :
  Calls Tryz.prog 45 #[.pointer (some ⟨M, 0, none⟩), v] w fun e w' => e = .returned (.tuple #[]) ∧ WoS w0.heap.size M pv (n + 1 + 3 * l.length) w' ∧ Below w0.heap.size w w' ∧ Stay tW w w' := by
 obtain ⟨A, cA, rfl⟩ := hv.out.shape
 have HZ0 := lhid hb.out.size
 have hl' := hl.out
 go_enter Tryz.func45, Tryz.ntmps45
 go_wp2_with fail
 with_reducible refine (num_s w0.heap.size M pv 1 n 1 l.length w h (lhid rfl) (by omega) HZ0 hBM (lhid (by have := hn.out; omega))).mono ?_
 rintro e w1 ⟨rfl, h1, b1, s1⟩
 have HW1 := lhid h1
 have HB1 := lhid b1
 have HS1 := lhid s1
 clear h1 b1 s1
 go_wp2_with fail
 go_loopw [4] (fun i wr => ∃ k : Nat, i = .int .i64 k ∧ k ≤ l.length ∧ Hid (WoS w0.heap.size M pv (n + 1 + 3 * k) wr) ∧ Hid (Below w0.heap.size w wr) ∧ Hid (Stay tW w wr)) (fun i _ => l.length - (intOf i).toNat)
 case atStart => exact ⟨0, rfl, Nat.zero_le _, HW1, HB1, HS1⟩
 case round =>
  clear HW1 HB1 HS1
  obtain ⟨k, rfl, hk, HW, HB, HS⟩ := hrel
  have HB0 := lhid (hb.out.trans HB.out)
  have HZ := lhid (Nat.le_trans HZ0.out HB.out.size)
  by_cases hlt : k < l.length
  ·obtain ⟨x, hx⟩ : ∃ x, l[k]? = some x := ⟨_, List.getElem?_eq_getElem hlt⟩
   obtain ⟨g, o, cc, rfl, rfl, hc⟩ := (hv.out.below kept_st HB0.out).at' hx
   have c0 : wr.cell? ⟨g, o + k, none⟩ = some (.string (tx x)) := by
    have := hc 0 _ rfl
    rwa [Nat.mul_one] at this
   obtain ⟨S, hS⟩ : ∃ S, tx x = S := ⟨_, rfl⟩
   rw [hS] at c0
   have hSz : S.size ≤ 1000000000 := by rw [← hS, tx_size]; exact ht.out x (List.mem_of_getElem? hx)
   have k3 : (k : Int) < l.length := by omega
   have HNN : Hid (n + 1 + 3 * k ≤ 70368744177664) := lhid (by have := hn.out; omega)
   clear hx hc hS
   cases e0 : (S.toList == [])
   case true =>
    go_wp2_with fail
    with_reducible refine (num_s w0.heap.size M pv 1 (n + 1 + 3 * k) 1 0 wr HW (lhid rfl) (by omega) HZ hBM HNN).mono ?_
    rintro e w2 ⟨rfl, h2, b2, s2⟩
    have HW2 := lhid (h2.le (show _ ≤ n + 1 + 3 * (k + 1) by omega))
    have HB2 := lhid (HB.out.trans b2)
    have HS2 := lhid (HS.out.trans s2)
    clear h2 b2 s2
    go_wp2_with fail
    go_roundw
    case rel => exact ⟨k + 1, by go_num, by omega, HW2, HB2, HS2⟩
    case measure => simp [intOf]; omega
   cases e1 : (S.toList == [73])
   case true =>
    go_wp2_with fail
    with_reducible refine (num_s w0.heap.size M pv 1 (n + 1 + 3 * k) 1 1 wr HW (lhid rfl) (by omega) HZ hBM HNN).mono ?_
    rintro e w2 ⟨rfl, h2, b2, s2⟩
    have HW2 := lhid (h2.le (show _ ≤ n + 1 + 3 * (k + 1) by omega))
    have HB2 := lhid (HB.out.trans b2)
    have HS2 := lhid (HS.out.trans s2)
    clear h2 b2 s2
    go_wp2_with fail
    go_roundw
    case rel => exact ⟨k + 1, by go_num, by omega, HW2, HB2, HS2⟩
    case measure => simp [intOf]; omega
   cases e2 : (S.toList == [74])
   case true =>
    go_wp2_with fail
    with_reducible refine (num_s w0.heap.size M pv 1 (n + 1 + 3 * k) 1 2 wr HW (lhid rfl) (by omega) HZ hBM HNN).mono ?_
    rintro e w2 ⟨rfl, h2, b2, s2⟩
    have HW2 := lhid (h2.le (show _ ≤ n + 1 + 3 * (k + 1) by omega))
    have HB2 := lhid (HB.out.trans b2)
    have HS2 := lhid (HS.out.trans s2)
    clear h2 b2 s2
    go_wp2_with fail
    go_roundw
    case rel => exact ⟨k + 1, by go_num, by omega, HW2, HB2, HS2⟩
    case measure => simp [intOf]; omega
   cases e3 : (S.toList == [78])
   case true =>
    go_wp2_with fail
    with_reducible refine (num_s w0.heap.size M pv 1 (n + 1 + 3 * k) 1 3 wr HW (lhid rfl) (by omega) HZ hBM HNN).mono ?_
    rintro e w2 ⟨rfl, h2, b2, s2⟩
    have HW2 := lhid (h2.le (show _ ≤ n + 1 + 3 * (k + 1) by omega))
    have HB2 := lhid (HB.out.trans b2)
    have HS2 := lhid (HS.out.trans s2)
    clear h2 b2 s2
    go_wp2_with fail
    go_roundw
    case rel => exact ⟨k + 1, by go_num, by omega, HW2, HB2, HS2⟩
    case measure => simp [intOf]; omega
   by_cases h3 : 2 < S.size
   ·have h4 : (2 : Int) < S.size := by omega
    have h5 : (0 : Int) < S.size := by omega
    have h6 : (S.size : Int) ≤ 1000000000 := by omega
    have h7 : (1 : Int) ≤ S.size - 1 := by omega
    have h8 : (S.size : Int) - 1 ≤ S.size := by omega
    have h9 : (0 : Int) ≤ S.size - 1 := by omega
    go_wp2_with fail
    all_goals
     with_reducible refine (num_s w0.heap.size M pv 1 (n + 1 + 3 * k) 1 4 wr HW (lhid rfl) (by omega) HZ hBM HNN).mono ?_
     rintro e w2 ⟨rfl, h2, b2, s2⟩
     have HW2 := lhid h2
     have HB2 := lhid (HB.out.trans b2)
     have HS2 := lhid (HS.out.trans s2)
     have HZ2 := lhid (Nat.le_trans HZ0.out HB2.out.size)
     clear h2 b2 s2
     go_wp2_with fail
     with_reducible refine (find_S w0.heap.size M pv L 7 _ _ w2 HW2 (lhid (hp.out.below kept_co (hb.out.trans HB2.out))) HZ2 hBM).mono ?_
     rintro e w3 ⟨⟨z, rfl⟩, h3, b3, s3⟩
     have HW3 := lhid h3
     have HB3 := lhid (HB2.out.trans b3)
     have HS3 := lhid (HS2.out.trans s3)
     have HZ3 := lhid (Nat.le_trans HZ0.out HB3.out.size)
     clear h3 b3 s3
     go_wp2_with fail
     with_reducible refine (num_s w0.heap.size M pv 2 _ 2 z w3 HW3 (lhid rfl) (by omega) HZ3 hBM (lhid (by have := hn.out; omega))).mono ?_
     rintro e w4 ⟨rfl, h4, b4, s4⟩
     have HW4 := lhid (h4.le (show _ ≤ n + 1 + 3 * (k + 1) by omega))
     have HB4 := lhid (HB3.out.trans b4)
     have HS4 := lhid (HS3.out.trans s4)
     clear h4 b4 s4
     go_wp2_with fail
     go_roundw
     case rel => exact ⟨k + 1, by go_num, by omega, HW4, HB4, HS4⟩
     case measure => simp [intOf]; omega
   ·have h4 : ¬ (2 : Int) < S.size := by omega
    go_wp2_with fail
    with_reducible refine (num_s w0.heap.size M pv 1 (n + 1 + 3 * k) 1 4 wr HW (lhid rfl) (by omega) HZ hBM HNN).mono ?_
    rintro e w2 ⟨rfl, h2, b2, s2⟩
    have HW2 := lhid h2
    have HB2 := lhid (HB.out.trans b2)
    have HS2 := lhid (HS.out.trans s2)
    have HZ2 := lhid (Nat.le_trans HZ0.out HB2.out.size)
    clear h2 b2 s2
    go_wp2_with fail
    with_reducible refine (find_S w0.heap.size M pv L 7 S _ w2 HW2 (lhid (hp.out.below kept_co (hb.out.trans HB2.out))) HZ2 hBM).mono ?_
    rintro e w3 ⟨⟨z, rfl⟩, h3, b3, s3⟩
    have HW3 := lhid h3
    have HB3 := lhid (HB2.out.trans b3)
    have HS3 := lhid (HS2.out.trans s3)
    have HZ3 := lhid (Nat.le_trans HZ0.out HB3.out.size)
    clear h3 b3 s3
    go_wp2_with fail
    with_reducible refine (num_s w0.heap.size M pv 2 _ 2 z w3 HW3 (lhid rfl) (by omega) HZ3 hBM (lhid (by have := hn.out; omega))).mono ?_
    rintro e w4 ⟨rfl, h4, b4, s4⟩
    have HW4 := lhid (h4.le (show _ ≤ n + 1 + 3 * (k + 1) by omega))
    have HB4 := lhid (HB3.out.trans b4)
    have HS4 := lhid (HS3.out.trans s4)
    clear h4 b4 s4
    go_wp2_with fail
    go_roundw
    case rel => exact ⟨k + 1, by go_num, by omega, HW4, HB4, HS4⟩
    case measure => simp [intOf]; omega
  ·have hkl : k = l.length := by omega
   have k3 : ¬ (k : Int) < l.length := by omega
   have hw := HW.out
   rw [hkl] at hw
   have HWE := lhid hw
   clear hw hkl
   go_wp2_with fail
   go_end0
   exact ⟨rfl, HWE.out, HB.out, HS.out⟩
end Go.Proofs.YtgihfcimngogfaaGreat
