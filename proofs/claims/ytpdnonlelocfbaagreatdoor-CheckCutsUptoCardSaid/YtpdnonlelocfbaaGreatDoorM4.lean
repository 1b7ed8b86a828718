/- Texts of this claim, joined: ChkPool, ChkPool2, ChkTab, ChkTab2, ChkTab3, ChkThing. -/
import Derived.Test.YtpdnonlelocfbaaGreatDoorJChkPush
import Derived.Deep.QuietTactic
import Derived.BigQuiet
import Derived.Test.YtpdnonlelocfbaaGreatDoorM2
/- Package check: classFlags, pooled, pooledType. -/
namespace Go.Proofs.YtpdnonlelocfbaaGreatDoor
open Go.RowKit Go Go.Maps
set_option linter.unusedVariables false
theorem und_ask : Tryz.prog.underlying 104 = some (.map 9 300) := by kernel_rfl
theorem zero_ask (w : World) : (zeroValue 300).run Tryz.prog w = .ok (.agg #[.bool false, .int .i64 0]) w := by kernel_rfl
section
variable {E : Chk} {Z : Nat → Prop} {wT : World} {c : Nat} {F : Fx} {N : Nat} {s : Cs} {kn : Bool} {st : Value} {w : World}
theorem AskV.mono {b M : Nat} (h : AskV E w b N) (hM : N ≤ M) : AskV E w b M := by
  obtain ⟨n, f, h1, h2⟩ := h
  exact ⟨n, f, Nat.le_trans h1 hM, h2⟩
theorem Ck.more (h : Ck E Z wT c F N s kn st w) {M : Nat} (hM : N ≤ M) : Ck E Z wT c F M s kn st w := ⟨h.std, h.low, h.new, h.cz, h.bz, h.it, h.ask.mono hM⟩
set_option maxRecDepth 100000 in
/-- A class that was asked for is noted. -/
theorem Ck.note (h : Ck E Z wT c F N s kn st w) {x : Bs} (hx : x.length ≤ maxLen) (hN : N < maxLen) {w1 : World} (hb : Below w.heap.size w w1) :
    ∃ w', (Instr.mapUpdate 104 (.map (some F.cb)) (.string (tx x)) (.agg #[.bool (E.cls x).isSome, .int .i64 ((E.cls x).getD 0)])).run Tryz.prog w1 = .ok () w' ∧ Ck E Z wT c F (N + 1) s kn st w' ∧ Ch Z w w' ∧ Ch (fun k => k = F.cb) w1 w' := by
  obtain ⟨n, f, hn, hm, hf⟩ := (h.below hb).ask
  obtain ⟨w', hr, hm', hg, hs⟩ := hm.put und_ask (by omega) hx (.agg #[.bool (E.cls x).isSome, .int .i64 ((E.cls x).getD 0)])
  have hch : Ch Z w w' := (Ch.of hb).grown hg (fun k hk _ => by injection hk with hk; exact hk ▸ h.bz)
  have hch2 : Ch (fun k => k = F.cb) w1 w' := (Ch.refl _ _).grown hg (by rintro k e _; injection e with e; exact e.symm)
  obtain ⟨vl, vs, hc, hl, hss, hd⟩ := (h.below hb).it
  have hk := h.below hb
  refine ⟨w', hr, ⟨h.to hch, h.low, fun k hk => h.new k (Nat.le_trans hch.size hk), h.cz, h.bz, ⟨vl, vs, ?_, ?_, ?_, hd⟩, n + 1, _, by omega, hm', fun s => ?_⟩, hch, hch2⟩
  · exact (hg.block c (heap_lt hc) (fun e => by injection e with e; exact ask_ne hk.ask hc e.symm)).trans hc
  · exact hl.of fun g hg' => hg.block g (hl.row.lt g hg').2 (fun e => ask_no hk.ask hl (by rw [hg', e]))
  · exact hss.of fun g hg' => hg.block g (hss.row.lt g hg').2 (fun e => ask_no hk.ask hss (by rw [hg', e]))
  · by_cases e : s = x
    · subst e; exact .inr (by simp)
    · simp only [if_neg e]; exact hf s
set_option maxHeartbeats 4000000 in
set_option maxRecDepth 100000 in
theorem classFlags_c (HE : Hid (Env E F.tb wT)) (HC : Hid (Ck E Z wT c F N s kn st w)) (x : Bs) (hx : x.length ≤ ML) (hN : N ≤ 8589934592) :
    Calls Tryz.prog 241 #[.pointer (some ⟨c, 0, none⟩), .string (tx x)] w (CkOut E Z wT c F (N + 1) s kn st w (.returned (.tuple #[.int .i64 ((E.cls x).getD 0), .bool (E.cls x).isSome]))) := by
  obtain ⟨n, f, hn, hm, hf⟩ := HC.out.ask
  obtain ⟨vl, vs, hc, _⟩ := HC.out.it
  have c19 : w.cell? ⟨c, 19, none⟩ = some (.map (some F.cb)) := heap_cell hc rfl
  have hxm : x.length ≤ maxLen := Nat.le_trans hx (by decide)
  have HM := lhid hm
  have HXM := lhid hxm
  obtain ⟨fl, hfl⟩ : ∃ fl, (E.cls x).getD 0 = fl := ⟨_, rfl⟩
  obtain ⟨th, hth⟩ : ∃ th, (E.cls x).isSome = th := ⟨_, rfl⟩
  have HFT : Hid ((E.cls x).getD 0 = fl ∧ (E.cls x).isSome = th) := lhid ⟨hfl, hth⟩
  clear hm hc
  go_enter Tryz.func241, Tryz.ntmps241
  rcases hf x with hfx | hfx
  · have HFX := lhid hfx
    clear hf hfx
    rw [hfl, hth]
    clear hfl hth
    have hb1 : Below w.heap.size w (w.alloc (.cells #[.bool false, .int .i64 0] 300)) := (Below.refl _ _).alloc (Nat.le_refl _) _
    have hz1 := heap_alloc_new w (.cells #[.bool false, .int .i64 0] 300)
    have HB1 := lhid hb1
    have HZ1 := lhid hz1
    have HSTD := lhid (HC.out.below hb1).std
    have q0 := (HC.out.below hb1).cell
    have q19 : (w.alloc (.cells #[.bool false, .int .i64 0] 300)).cell? ⟨c, 19, none⟩ = some (.map (some F.cb)) := (hb1.cell (p := ⟨c, 19, none⟩) (cell_lt c19)).trans c19
    have hs1 : w.heap.size < (w.alloc (.cells #[.bool false, .int .i64 0] 300)).heap.size := by simp
    have HS1 := lhid hs1
    clear hb1 hz1 hs1
    go_wp2_with (at_lookup; refine wpList_lookok_mv _ rfl _ _ 104 rfl _ und_ask _ (zero_ask _) F.cb n f rfl HM.out x rfl HXM.out (.agg #[.bool false, .int .i64 0]) (by rw [HFX.out]; rfl) false (by rw [HFX.out]; rfl) ?_)
    generalize w.alloc (.cells #[.bool false, .int .i64 0] 300) = w1 at *
    with_reducible refine (HE.out.cls x w1 hx HSTD.out).mono ?_
    rintro e w2 ⟨⟨a1, a2, A, B, C, D, l1, l2, l3, l4, c1, c2, c3, c4, rfl⟩, hb2⟩
    rw [HFT.out.1, HFT.out.2]
    have hz2 := (hb2.block _ HS1.out).trans HZ1.out
    have hb2' := HB1.out.trans (Below.less hb2 HB1.out.size)
    have r19 := (hb2.cell (p := ⟨c, 19, none⟩) (cell_lt q19)).trans q19
    have hb3 : Below w.heap.size w (w2.alloc (.cells #[.int .i64 fl, .string (tx a1), .string (tx a2), .slice A l1 c1, .slice B l2 c2, .slice C l3 c3, .slice D l4 c4] 39)) := hb2'.alloc hb2'.size _
    have hz3 := (Below.heap_alloc w2 (.cells #[.int .i64 fl, .string (tx a1), .string (tx a2), .slice A l1 c1, .slice B l2 c2, .slice C l3 c3, .slice D l4 c4] 39) _ (heap_lt hz2)).trans hz2
    have s19 : (w2.alloc (.cells #[.int .i64 fl, .string (tx a1), .string (tx a2), .slice A l1 c1, .slice B l2 c2, .slice C l3 c3, .slice D l4 c4] 39)).cell? ⟨c, 19, none⟩ = some (.map (some F.cb)) := (cell_heap (Below.heap_alloc w2 _ c (cell_lt r19)) 19).trans r19
    have e0 : (w2.alloc (.cells #[.int .i64 fl, .string (tx a1), .string (tx a2), .slice A l1 c1, .slice B l2 c2, .slice C l3 c3, .slice D l4 c4] 39)).cell? ⟨w.heap.size, 0, none⟩ = some (.bool false) := heap_cell hz3 rfl
    have e1 : (w2.alloc (.cells #[.int .i64 fl, .string (tx a1), .string (tx a2), .slice A l1 c1, .slice B l2 c2, .slice C l3 c3, .slice D l4 c4] 39)).cell? ⟨w.heap.size, 1, none⟩ = some (.int .i64 0) := heap_cell hz3 rfl
    have f0 := heap_thaw hz3 0
    have f1 := heap_thaw hz3 1
    have HB3 := lhid hb3
    have HZ3 := lhid hz3
    clear hb2 hz2 hb2' r19 hb3 hz3 q0 q19 c19
    have hlc : c < w.heap.size := cell_lt HC.out.cell
    have hlb : F.cb < w.heap.size := HC.out.ask.lt
    have hb5 : Below w.heap.size w (((w2.alloc (.cells #[.int .i64 fl, .string (tx a1), .string (tx a2), .slice A l1 c1, .slice B l2 c2, .slice C l3 c3, .slice D l4 c4] 39)).setCell ⟨w.heap.size, 0, none⟩ (.bool th)).setCell ⟨w.heap.size, 1, none⟩ (.int .i64 fl)) := (HB3.out.setCell (p := ⟨w.heap.size, 0, none⟩) (Nat.le_refl _) _).setCell (p := ⟨w.heap.size, 1, none⟩) (Nat.le_refl _) _
    have hz5 : (((w2.alloc (.cells #[.int .i64 fl, .string (tx a1), .string (tx a2), .slice A l1 c1, .slice B l2 c2, .slice C l3 c3, .slice D l4 c4] 39)).setCell ⟨w.heap.size, 0, none⟩ (.bool th)).setCell ⟨w.heap.size, 1, none⟩ (.int .i64 fl)).heap[w.heap.size]? = some (.cells #[.bool th, .int .i64 fl] 300 (0, 0)) := heap_set (heap_set HZ3.out (.bool th)) (.int .i64 fl)
    have HB5 := lhid hb5
    have HZ5 := lhid hz5
    have HLC := lhid hlc
    have HLB := lhid hlb
    have HS19 := lhid s19
    clear hb5 hz5 hlc hlb
    go_wp2_with fail
    generalize (((w2.alloc (.cells #[.int .i64 fl, .string (tx a1), .string (tx a2), .slice A l1 c1, .slice B l2 c2, .slice C l3 c3, .slice D l4 c4] 39)).setCell ⟨w.heap.size, 0, none⟩ (.bool th)).setCell ⟨w.heap.size, 1, none⟩ (.int .i64 fl)) = w5 at *
    clear s19 e0 e1 f0 f1
    obtain ⟨w6, hrun, hk6, hc6, hcb6⟩ := HC.out.note HXM.out (Nat.lt_of_le_of_lt hN (by decide)) (Below.drew' HB5.out)
    rw [HFT.out.1, HFT.out.2] at hrun
    have g19 : w5.cell? ⟨c, 19, none⟩ = some (.map (some F.cb)) := by
      obtain ⟨vl, vs, hc, _⟩ := (HC.out.below HB5.out).it
      exact heap_cell hc rfl
    have g0 : w5.cell? ⟨w.heap.size, 0, none⟩ = some (.bool th) := heap_cell HZ5.out rfl
    have g1 : w5.cell? ⟨w.heap.size, 1, none⟩ = some (.int .i64 fl) := heap_cell HZ5.out rfl
    have hz6 : w6.heap[w.heap.size]? = some (.cells #[.bool th, .int .i64 fl] 300 (0, 0)) := (hcb6.block _ (heap_lt HZ5.out) (fun e => by have := HLB.out; omega)).trans HZ5.out
    have h0 : w6.cell? ⟨w.heap.size, 0, none⟩ = some (.bool th) := heap_cell hz6 rfl
    have h1 : w6.cell? ⟨w.heap.size, 1, none⟩ = some (.int .i64 fl) := heap_cell hz6 rfl
    have HK6 := lhid hk6
    have HC6 := lhid hc6
    clear hk6 hc6 hcb6 hz6
    go_region
    go_wp2_with fail
    go_quiet (fail)
    go_wp2_with fail
    refine bodyPost_ret (v := .tuple #[.int .i64 fl, .bool th]) (by simp [results, Tryz.results241, go_sem]) rfl ?_
    exact ⟨rfl, HK6.out.below (Below.drewN' (Below.refl _ _) _), HC6.out.drewN _⟩
  · rw [hfl, hth] at hfx
    have HFX := lhid hfx
    rw [hfl, hth]
    clear hf hfx hfl hth
    have hb1 : Below w.heap.size w (w.alloc (.cells #[.bool th, .int .i64 fl] 300)) := (Below.refl _ _).alloc (Nat.le_refl _) _
    have hz1 := heap_alloc_new w (.cells #[.bool th, .int .i64 fl] 300)
    have HB1 := lhid hb1
    have HZ1 := lhid hz1
    have HCH1 := lhid (Ch.of (X := Z) hb1)
    have HCK1 := lhid ((HC.out.below hb1).more (Nat.le_succ N))
    have d0 : (w.alloc (.cells #[.bool th, .int .i64 fl] 300)).cell? ⟨w.heap.size, 0, none⟩ = some (.bool th) := heap_cell hz1 rfl
    have d1 : (w.alloc (.cells #[.bool th, .int .i64 fl] 300)).cell? ⟨w.heap.size, 1, none⟩ = some (.int .i64 fl) := heap_cell hz1 rfl
    clear hb1 hz1
    go_wp2_with (at_lookup; refine wpList_lookok_mv _ rfl _ _ 104 rfl _ und_ask _ (zero_ask _) F.cb n f rfl HM.out x rfl HXM.out (.agg #[.bool th, .int .i64 fl]) (by rw [HFX.out]; rfl) true (by rw [HFX.out]; rfl) ?_)
    go_wp2_with fail
    go_quiet (fail)
    go_wp2_with fail
    refine bodyPost_ret (v := .tuple #[.int .i64 fl, .bool th]) (by simp [results, Tryz.results241, go_sem]) rfl ?_
    exact ⟨rfl, HCK1.out.below (Below.drewN' (Below.refl _ _) _), HCH1.out.drewN _⟩
end
end Go.Proofs.YtpdnonlelocfbaaGreatDoor
/- Package check: pooled, pooledType. -/
namespace Go.Proofs.YtpdnonlelocfbaaGreatDoor
open Go.RowKit Go Go.Maps
set_option linter.unusedVariables false
def inV (l : List Int) : List Value := l.map fun k => .int .i64 k
def coV (x : CoI) : Value := .agg #[.int .i64 x.kind, .int .i64 x.num, .string (tx x.text), .string (tx x.name), .string (tx x.desc)]
set_option maxHeartbeats 2000000 in
set_option maxRecDepth 100000 in
theorem index_ints (ks : List Int) (g m : Nat) (k : Int) (w : World) (HG : Hid (w.heap[g]? = some (.cells (inV ks).toArray 3 (0, 0)))) (HM : Hid (m = ks.length)) (hm : m ≤ 40) :
    Calls Tryz.prog 185 #[.slice (some ⟨g, 0, none⟩) m m, .int .i64 k] w fun e w' => (∃ i : Int, e = .returned (.int .i64 i) ∧ (0 ≤ i ↔ k ∈ ks)) ∧ w = w' := by
  go_enter Tryz.func185, Tryz.ntmps185
  go_wp2_with fail
  go_loopw [8] (fun i wr => ∃ j : Nat, i = .int .i64 j ∧ j ≤ m ∧ Hid (k ∉ ks.take j) ∧ wr = w) (fun i _ => m - (intOf i).toNat)
  case atStart => exact ⟨0, rfl, Nat.zero_le _, lhid (by simp), rfl⟩
  case round =>
    obtain ⟨j, rfl, hj, HN, rfl⟩ := hrel
    by_cases hlt : j < m
    · obtain ⟨x, hx⟩ : ∃ x, ks[j]? = some x := ⟨_, List.getElem?_eq_getElem (by have := HM.out; omega)⟩
      have c0 : wr.cell? ⟨g, j, none⟩ = some (.int .i64 x) := heap_cell HG.out (by simp [inV, hx])
      have k3 : (j : Int) < m := by omega
      have HX := lhid hx
      clear hx
      by_cases hxc : k = x
      · have d0 : (k == x) = true := by rw [hxc]; simp
        have HM2 : Hid (k ∈ ks) := lhid (by rw [hxc]; exact List.mem_of_getElem? HX.out)
        clear hxc
        go_wp2_with fail
        go_ret
        exact ⟨⟨j, rfl, iff_of_true (by omega) HM2.out⟩, rfl⟩
      · have d0 : (k == x) = false := by rw [beq_eq_false_iff_ne]; exact hxc
        have HN2 : Hid (k ∉ ks.take (j + 1)) := lhid (by rw [List.take_add_one, HX.out]; simp only [Option.toList_some, List.mem_append, List.mem_singleton, not_or]; exact ⟨HN.out, hxc⟩)
        clear hxc
        go_wp2_with fail
        go_roundw
        case rel => exact ⟨j + 1, by go_num, by omega, HN2, trivial⟩
        case measure => simp [intOf]; omega
    · have k3 : ¬ (j : Int) < m := by omega
      have hn := HN.out
      rw [List.take_of_length_le (by have := HM.out; omega)] at hn
      have HN2 := lhid hn
      clear hn HN
      go_wp2_with fail
      go_ret
      exact ⟨⟨-1, rfl, iff_of_false (by decide) HN2.out⟩, rfl⟩
set_option maxHeartbeats 2000000 in
set_option maxRecDepth 100000 in
theorem contains_ints (ks : List Int) (g m : Nat) (k : Int) (w : World) (HG : Hid (w.heap[g]? = some (.cells (inV ks).toArray 3 (0, 0)))) (HM : Hid (m = ks.length)) (hm : m ≤ 40) :
    Calls Tryz.prog 120 #[.slice (some ⟨g, 0, none⟩) m m, .int .i64 k] w fun e w' => e = .returned (.bool (ks.contains k)) ∧ w = w' := by
  go_enter Tryz.func120, Tryz.ntmps120
  go_wp2_with fail
  with_reducible refine (index_ints ks g m k w HG HM hm).mono ?_
  rintro e w1 ⟨⟨i, rfl, hi⟩, rfl⟩
  have HI := lhid hi
  clear hi
  go_wp2_with fail
  go_ret
  refine ⟨?_, rfl⟩
  have h : ks.contains k = decide (0 ≤ i) := by rw [Bool.eq_iff_iff, decide_eq_true_iff, HI.out]; simp
  rw [h]
  rfl
/-- What the checker's cells hold is what the plain words are made of. -/
structure Fit (E : Chk) (F : Fx) (wT : World) : Prop where
  ms : F.ms = E.room
  own : E.of F.cn = E.own
  gives : F.gives = E.gives
  pool : ∃ P, RdX P 5 CoE wT F.cp E.pool ∧ ∀ g, P g → g < wT.heap.size
  cn : F.cn.length ≤ ML
theorem co_zero : coV noCo = .agg #[.int .i64 0, .int .i64 0, .string ⟨#[]⟩, .string ⟨#[]⟩, .string ⟨#[]⟩] := rfl
section
variable {E : Chk} {Z : Nat → Prop} {wT : World} {c : Nat} {F : Fx} {N : Nat} {s : Cs} {kn : Bool} {st : Value} {w : World}
theorem Ck.other (h : Ck E Z wT c F N s kn st w) {R : Nat} {cs : Array Value} {t : TypeId} (hR : w.heap[R]? = some (.cells cs t (0, 0))) (ht1 : t ≠ 9) (ht2 : t ≠ 107) (hz : Z R) (j : Nat) (u : Value) : Ck E Z wT c F N s kn st (w.setCell ⟨R, j, none⟩ u) ∧ Ch Z w (w.setCell ⟨R, j, none⟩ u) := by
  obtain ⟨vl, vs, hc, hl, hs, hd⟩ := h.it
  have hch : Ch Z w (w.setCell ⟨R, j, none⟩ u) := (Ch.refl Z w).set (p := ⟨R, j, none⟩) (fun _ => hz) u
  have hcR : c ≠ R := fun e => by rw [e, hR] at hc; injection hc with hc; injection hc with _ hc _; exact ht2 hc
  have hno : ∀ {v : Value} {l : List Bs}, Ow Z wT.heap.size w v l → v.ownBlock ≠ some R := fun ho e => by
    rcases ho.row.2 with ⟨rfl, _⟩ | ⟨g, cap, cur, rfl, _, h3, _⟩
    · cases e
    · injection e with e
      subst e
      rw [hR] at h3
      injection h3 with h3
      injection h3 with _ h3 _
      exact ht1 h3
  exact ⟨⟨h.to hch, h.low, fun k hk => h.new k (Nat.le_trans hch.size hk), h.cz, h.bz, ⟨vl, vs, (Below.heap_setCell _ _ _ _ hcR).trans hc, ow_far hl (hno hl) u, ow_far hs (hno hs) u, hd⟩, h.ask.of (Below.heap_setCell _ _ _ _ (ask_ne h.ask hR))⟩, hch⟩
theorem Ck.five (h : Ck E Z wT c F N s kn st w) {R : Nat} {a0 a1 a2 a3 a4 : Value} {t : TypeId} (hR : w.heap[R]? = some (.cells #[a0, a1, a2, a3, a4] t (0, 0))) (ht1 : t ≠ 9) (ht2 : t ≠ 107) (hz : Z R) (b0 b1 b2 b3 b4 : Value) :
    Ck E Z wT c F N s kn st (((((w.setCell ⟨R, 0, none⟩ b0).setCell ⟨R, 1, none⟩ b1).setCell ⟨R, 2, none⟩ b2).setCell ⟨R, 3, none⟩ b3).setCell ⟨R, 4, none⟩ b4) ∧ Ch Z w (((((w.setCell ⟨R, 0, none⟩ b0).setCell ⟨R, 1, none⟩ b1).setCell ⟨R, 2, none⟩ b2).setCell ⟨R, 3, none⟩ b3).setCell ⟨R, 4, none⟩ b4) ∧
      (((((w.setCell ⟨R, 0, none⟩ b0).setCell ⟨R, 1, none⟩ b1).setCell ⟨R, 2, none⟩ b2).setCell ⟨R, 3, none⟩ b3).setCell ⟨R, 4, none⟩ b4).heap[R]? = some (.cells #[b0, b1, b2, b3, b4] t (0, 0)) := by
  have h1 := h.other hR ht1 ht2 hz 0 b0
  have r1 : (w.setCell ⟨R, 0, none⟩ b0).heap[R]? = some (.cells #[b0, a1, a2, a3, a4] t (0, 0)) := heap_set hR _
  have h2 := h1.1.other r1 ht1 ht2 hz 1 b1
  have r2 : ((w.setCell ⟨R, 0, none⟩ b0).setCell ⟨R, 1, none⟩ b1).heap[R]? = some (.cells #[b0, b1, a2, a3, a4] t (0, 0)) := heap_set r1 _
  have h3 := h2.1.other r2 ht1 ht2 hz 2 b2
  have r3 : (((w.setCell ⟨R, 0, none⟩ b0).setCell ⟨R, 1, none⟩ b1).setCell ⟨R, 2, none⟩ b2).heap[R]? = some (.cells #[b0, b1, b2, a3, a4] t (0, 0)) := heap_set r2 _
  have h4 := h3.1.other r3 ht1 ht2 hz 3 b3
  have r4 : ((((w.setCell ⟨R, 0, none⟩ b0).setCell ⟨R, 1, none⟩ b1).setCell ⟨R, 2, none⟩ b2).setCell ⟨R, 3, none⟩ b3).heap[R]? = some (.cells #[b0, b1, b2, b3, a4] t (0, 0)) := heap_set r3 _
  have h5 := h4.1.other r4 ht1 ht2 hz 4 b4
  exact ⟨h5.1, (((h1.2.tr h2.2).tr h3.2).tr h4.2).tr h5.2, heap_set r4 _⟩
set_option maxHeartbeats 4000000 in
set_option maxRecDepth 100000 in
theorem pooled_c (HE : Hid (Env E F.tb wT)) (HF : Hid (Fit E F wT)) (HC : Hid (Ck E Z wT c F N s kn st w)) (n : Nat) (hn : n ≤ 4294967296) (ks : List Int) (w1 : World) (g m : Nat) (HB : Hid (Below w.heap.size w w1)) (HG : Hid (w1.heap[g]? = some (.cells (inV ks).toArray 3 (0, 0)))) (hg : w.heap.size ≤ g) (HM : Hid (m = ks.length)) (hm : m ≤ 40) :
    Calls Tryz.prog 218 #[.pointer (some ⟨c, 0, none⟩), .int .i64 n, .slice (some ⟨g, 0, none⟩) m m] w1 (CkOut E Z wT c F N (s.pooled E n ks).2 kn st w (.returned (coV (s.pooled E n ks).1))) := by
  obtain ⟨P, hp, hP⟩ := HF.out.pool
  obtain ⟨A, cap, hA⟩ := hp.shape
  rw [hA] at hp
  have HP := lhid hp
  have HPP := lhid hP
  have hk1 := HC.out.below HB.out
  obtain ⟨b, hb⟩ : ∃ b, (n == 0 || decide (E.pool.length ≤ n)) = b := ⟨_, rfl⟩
  have HBB := lhid hb
  have hplen := hp.len
  have HAA := lhid hA
  have hbz : (s.refuse b 12).flt = 0 → b = false := fun h => (refuse_none (by decide) h).2
  have hPL : s.pooled E n ks = if (s.refuse b 12).flt = 0 then (E.pool.getD n noCo, (s.refuse b 12).refuse (!ks.contains (E.pool.getD n noCo).kind) 12) else (noCo, s.refuse b 12) := by
    unfold Cs.pooled; rw [hb]
  have HPL := lhid hPL
  have HBZ := lhid hbz
  have HR1 := lhid (heap_alloc_new w1 (.cells #[.int .i64 0, .int .i64 0, .string ⟨#[]⟩, .string ⟨#[]⟩, .string ⟨#[]⟩] 213))
  have hb2 := (Below.refl w1.heap.size w1).alloc (Nat.le_refl _) (.cells #[.int .i64 0, .int .i64 0, .string ⟨#[]⟩, .string ⟨#[]⟩, .string ⟨#[]⟩] 213)
  have HB2 := lhid hb2
  have HK2 := lhid (hk1.below hb2)
  have HG2 := lhid ((hb2.block g (heap_lt HG.out)).trans HG.out)
  have HCH2 := lhid ((Ch.of (X := Z) HB.out).tr (Ch.of hb2))
  have c5 : (w1.alloc (.cells #[.int .i64 0, .int .i64 0, .string ⟨#[]⟩, .string ⟨#[]⟩, .string ⟨#[]⟩] 213)).cell? ⟨c, 5, none⟩ = some (.slice A E.pool.length cap) := by
    obtain ⟨vl, vs, hc, _⟩ := (hk1.below hb2).it
    rw [← hA]
    exact heap_cell hc rfl
  have hgl := heap_lt HG.out
  clear hp hP hk1 hb hA hbz hPL hb2
  go_enter Tryz.func218, Tryz.ntmps218
  by_cases hn0 : n = 0
  · subst hn0
    have HBT : Hid (true = b) := lhid (by rw [← HBB.out]; rfl)
    go_upto_region 2 with fail
    with_reducible refine (refuse_k HK2 (b' := b) ?hb 12).mono ?_
    case hb => exact HBT.out
    rintro e w3 ⟨⟨rfl, hk3, hc3⟩, hcb, hcc⟩
    have c23 := hk3.flt
    have hR3 := (hcb.block _ (heap_lt HR1.out) (fun e => by
      obtain ⟨_, _, hc, _⟩ := HK2.out.it
      rw [← e, HR1.out] at hc
      injection hc with hc
      injection hc with _ hc _
      revert hc
      decide)).trans HR1.out
    have hG3 := (hcb.block g (heap_lt HG2.out) (fun e => by
      obtain ⟨_, _, hc, _⟩ := HK2.out.it
      rw [← e, HG2.out] at hc
      injection hc with hc
      injection hc with _ hc _
      revert hc
      decide)).trans HG2.out
    have c5' := (hcc 5 (by decide)).trans c5
    have HK3 := lhid hk3
    have HCH3 := lhid (HCH2.out.tr hc3)
    obtain ⟨s1, hs1⟩ : ∃ x, s.refuse b 12 = x := ⟨_, rfl⟩
    rw [hs1] at HPL HBZ HK3 c23
    have HR3 := lhid hR3
    have HG3 := lhid hG3
    clear hk3 hc3 hcb hcc hs1 c5 hR3 hG3
    have h0 : ¬ s1.flt = 0 := fun h => by have := HBZ.out h; rw [← HBT.out] at this; cases this
    have hT : s.pooled E 0 ks = (noCo, s1) := by rw [HPL.out, if_neg h0]
    have HT := lhid hT
    clear hT
    have r0 := heap_cell (i := 0) HR3.out rfl
    have z0 := heap_thaw HR3.out 0
    have r1 := heap_cell (i := 1) HR3.out rfl
    have z1 := heap_thaw HR3.out 1
    have r2 := heap_cell (i := 2) HR3.out rfl
    have z2 := heap_thaw HR3.out 2
    have r3 := heap_cell (i := 3) HR3.out rfl
    have z3 := heap_thaw HR3.out 3
    have r4 := heap_cell (i := 4) HR3.out rfl
    have z4 := heap_thaw HR3.out 4
    go_wp2_with fail
    obtain ⟨hkF, hcF, hrF⟩ := HK3.out.five HR3.out (by decide) (by decide) (HC.out.new _ HB.out.size) (.int .i64 0) (.int .i64 0) (.string ⟨#[]⟩) (.string ⟨#[]⟩) (.string ⟨#[]⟩)
    have HKF := lhid hkF
    have HCF := lhid hcF
    have q0 := heap_cell (i := 0) hrF rfl
    have q1 := heap_cell (i := 1) hrF rfl
    have q2 := heap_cell (i := 2) hrF rfl
    have q3 := heap_cell (i := 3) hrF rfl
    have q4 := heap_cell (i := 4) hrF rfl
    clear hkF hcF hrF
    refine bodyPost_ret (v := coV noCo) (by simp [results, Tryz.results218, go_sem, coV, q0, q1, q2, q3, q4, noCo, tx_nil]) rfl ?_
    rw [HT.out]
    exact ⟨rfl, HKF.out, HCH3.out.tr HCF.out⟩
  · have d0 : ((n : Int) == 0) = false := by rw [beq_eq_false_iff_ne]; omega
    have HBD : Hid (decide (E.pool.length ≤ n) = b) := lhid (by rw [← HBB.out, show (n == 0) = false from beq_eq_false_iff_ne.2 hn0]; rfl)
    clear hn0
    go_upto_region 2 with fail
    with_reducible refine (refuse_k HK2 (b' := b) ?hb 12).mono ?_
    case hb => exact HBD.out
    rintro e w3 ⟨⟨rfl, hk3, hc3⟩, hcb, hcc⟩
    have c23 := hk3.flt
    have hR3 := (hcb.block _ (heap_lt HR1.out) (fun e => by
      obtain ⟨_, _, hc, _⟩ := HK2.out.it
      rw [← e, HR1.out] at hc
      injection hc with hc
      injection hc with _ hc _
      revert hc
      decide)).trans HR1.out
    have hG3 := (hcb.block g (heap_lt HG2.out) (fun e => by
      obtain ⟨_, _, hc, _⟩ := HK2.out.it
      rw [← e, HG2.out] at hc
      injection hc with hc
      injection hc with _ hc _
      revert hc
      decide)).trans HG2.out
    have c5' := (hcc 5 (by decide)).trans c5
    have HK3 := lhid hk3
    have HCH3 := lhid (HCH2.out.tr hc3)
    obtain ⟨s1, hs1⟩ : ∃ x, s.refuse b 12 = x := ⟨_, rfl⟩
    rw [hs1] at HPL HBZ HK3 c23
    have HR3 := lhid hR3
    have HG3 := lhid hG3
    clear hk3 hc3 hcb hcc hs1 c5 hR3 hG3
    by_cases h0 : s1.flt = 0
    · have hb0 := HBZ.out h0
      have hlt : n < E.pool.length := by
        refine Nat.lt_of_not_le fun hh => ?_
        have h1 := HBB.out
        rw [hb0] at h1
        simp [hh] at h1
      obtain ⟨x, hx⟩ : ∃ x, E.pool[n]? = some x := ⟨_, List.getElem?_eq_getElem hlt⟩
      obtain ⟨pg, po, cc, hAe, hPg, hE, hcells⟩ := HP.out.at' hx
      subst hAe
      have hcc : cc = [.int .i64 x.kind, .int .i64 x.num, .string (tx x.text), .string (tx x.name), .string (tx x.desc)] := hE
      subst hcc
      have hld : ∀ j u, [Value.int .i64 x.kind, .int .i64 x.num, .string (tx x.text), .string (tx x.name), .string (tx x.desc)][j]? = some u → w3.cell? ⟨pg, po + n * 5 + j, none⟩ = some u := fun j u hj => (cell_heap (HK3.out.std.block pg (HPP.out pg hPg)) _).trans (hcells j u hj)
      have l0 := hld 0 _ rfl
      have l1 := hld 1 _ rfl
      have l2 := hld 2 _ rfl
      have l3 := hld 3 _ rfl
      have l4 := hld 4 _ rfl
      rw [Nat.add_zero] at l0
      have hgd : E.pool.getD n noCo = x := by simp [List.getD, hx]
      have hT : s.pooled E n ks = (x, s1.refuse (!ks.contains x.kind) 12) := by rw [HPL.out, if_pos h0, hgd]
      have HT := lhid hT
      have hkc := heap_alloc_new w3 (.cells #[.int .i64 x.kind, .int .i64 x.num, .string (tx x.text), .string (tx x.name), .string (tx x.desc)] 213)
      have hb4 := (Below.refl w3.heap.size w3).alloc (Nat.le_refl _) (.cells #[.int .i64 x.kind, .int .i64 x.num, .string (tx x.text), .string (tx x.name), .string (tx x.desc)] 213)
      have HKC := lhid hkc
      have HK4 := lhid (HK3.out.below hb4)
      have HG4 := lhid ((hb4.block g (heap_lt HG3.out)).trans HG3.out)
      have HR4 := lhid ((hb4.block _ (heap_lt HR3.out)).trans HR3.out)
      have HCH4 := lhid (HCH3.out.tr (Ch.of (X := Z) hb4))
      have k0 : (w3.alloc (.cells #[.int .i64 x.kind, .int .i64 x.num, .string (tx x.text), .string (tx x.name), .string (tx x.desc)] 213)).cell? ⟨w3.heap.size, 0, none⟩ = some (.int .i64 x.kind) := heap_cell hkc rfl
      have kn' : (n : Int) < E.pool.length := by omega
      rw [h0] at c23
      clear hkc hb4 hT hgd hld hE hcells hPg hx h0 hb0
      go_upto_region 6 with fail
      with_reducible refine (contains_ints ks g m x.kind _ HG4 HM hm).mono ?_
      rintro e w5 ⟨rfl, rfl⟩
      go_upto_region 6 with fail
      with_reducible refine (refuse_k HK4 (b' := !ks.contains x.kind) ?hb 12).mono ?_
      case hb => rw [List.contains_eq_mem]
      rintro e w6 ⟨⟨rfl, hk6, hc6⟩, hcb6, hcc6⟩
      have hno : ∀ {g' : Nat} {cs : Array Value}, (w3.alloc (.cells #[.int .i64 x.kind, .int .i64 x.num, .string (tx x.text), .string (tx x.name), .string (tx x.desc)] 213)).heap[g']? = some (.cells cs 213 (0, 0)) → g' ≠ c := fun hh e => by
        obtain ⟨_, _, hc, _⟩ := HK4.out.it
        rw [← e, hh] at hc
        injection hc with hc
        injection hc with _ hc _
        revert hc
        decide
      have hR6 := (hcb6.block _ (heap_lt HR4.out) (hno HR4.out)).trans HR4.out
      have hK6 := (hcb6.block _ (heap_lt HKC.out) (hno HKC.out)).trans HKC.out
      have HR6 := lhid hR6
      have HK6 := lhid hk6
      have HCH6 := lhid (HCH4.out.tr hc6)
      have m0 := heap_cell (i := 0) hK6 rfl
      have r0 := heap_cell (i := 0) hR6 rfl
      have z0 := heap_thaw hR6 0
      have m1 := heap_cell (i := 1) hK6 rfl
      have r1 := heap_cell (i := 1) hR6 rfl
      have z1 := heap_thaw hR6 1
      have m2 := heap_cell (i := 2) hK6 rfl
      have r2 := heap_cell (i := 2) hR6 rfl
      have z2 := heap_thaw hR6 2
      have m3 := heap_cell (i := 3) hK6 rfl
      have r3 := heap_cell (i := 3) hR6 rfl
      have z3 := heap_thaw hR6 3
      have m4 := heap_cell (i := 4) hK6 rfl
      have r4 := heap_cell (i := 4) hR6 rfl
      have z4 := heap_thaw hR6 4
      clear hk6 hc6 hcb6 hcc6 hno hR6 hK6 k0
      go_wp2_with fail
      obtain ⟨hkF, hcF, hrF⟩ := HK6.out.five HR6.out (by decide) (by decide) (HC.out.new _ HB.out.size) (.int .i64 x.kind) (.int .i64 x.num) (.string (tx x.text)) (.string (tx x.name)) (.string (tx x.desc))
      have HKF := lhid hkF
      have HCF := lhid hcF
      have q0 := heap_cell (i := 0) hrF rfl
      have q1 := heap_cell (i := 1) hrF rfl
      have q2 := heap_cell (i := 2) hrF rfl
      have q3 := heap_cell (i := 3) hrF rfl
      have q4 := heap_cell (i := 4) hrF rfl
      clear hkF hcF hrF
      refine bodyPost_ret (v := coV x) (by simp [results, Tryz.results218, go_sem, coV, q0, q1, q2, q3, q4]) rfl ?_
      rw [HT.out]
      exact ⟨rfl, HKF.out, HCH6.out.tr HCF.out⟩
    · have hT : s.pooled E n ks = (noCo, s1) := by rw [HPL.out, if_neg h0]
      have HT := lhid hT
      clear hT
      have r0 := heap_cell (i := 0) HR3.out rfl
      have z0 := heap_thaw HR3.out 0
      have r1 := heap_cell (i := 1) HR3.out rfl
      have z1 := heap_thaw HR3.out 1
      have r2 := heap_cell (i := 2) HR3.out rfl
      have z2 := heap_thaw HR3.out 2
      have r3 := heap_cell (i := 3) HR3.out rfl
      have z3 := heap_thaw HR3.out 3
      have r4 := heap_cell (i := 4) HR3.out rfl
      have z4 := heap_thaw HR3.out 4
      go_wp2_with fail
      obtain ⟨hkF, hcF, hrF⟩ := HK3.out.five HR3.out (by decide) (by decide) (HC.out.new _ HB.out.size) (.int .i64 0) (.int .i64 0) (.string ⟨#[]⟩) (.string ⟨#[]⟩) (.string ⟨#[]⟩)
      have HKF := lhid hkF
      have HCF := lhid hcF
      have q0 := heap_cell (i := 0) hrF rfl
      have q1 := heap_cell (i := 1) hrF rfl
      have q2 := heap_cell (i := 2) hrF rfl
      have q3 := heap_cell (i := 3) hrF rfl
      have q4 := heap_cell (i := 4) hrF rfl
      clear hkF hcF hrF
      refine bodyPost_ret (v := coV noCo) (by simp [results, Tryz.results218, go_sem, coV, q0, q1, q2, q3, q4, noCo, tx_nil]) rfl ?_
      rw [HT.out]
      exact ⟨rfl, HKF.out, HCH3.out.tr HCF.out⟩
  
end
end Go.Proofs.YtpdnonlelocfbaaGreatDoor
/- Package check: its words as the table calls them; the groups of the table that hang on a code alone. -/
namespace Go.Proofs.YtpdnonlelocfbaaGreatDoor
open Go.RowKit Go Go.Maps
set_option linter.unusedVariables false
theorem tI : (⟨#[73]⟩ : ByteArray) = tx [73] := rfl
theorem tJ : (⟨#[74]⟩ : ByteArray) = tx [74] := rfl
theorem tN : (⟨#[78]⟩ : ByteArray) = tx [78] := rfl
theorem tAI : (⟨#[91, 73]⟩ : ByteArray) = tx [91, 73] := rfl
theorem tAJ : (⟨#[91, 74]⟩ : ByteArray) = tx [91, 74] := rfl
theorem tTx : (⟨#[76, 83, 116, 114, 105, 110, 103, 59]⟩ : ByteArray) = tx [76, 83, 116, 114, 105, 110, 103, 59] := rfl
theorem tTh : (⟨#[76, 84, 104, 114, 111, 119, 97, 98, 108, 101, 59]⟩ : ByteArray) = tx [76, 84, 104, 114, 111, 119, 97, 98, 108, 101, 59] := rfl
theorem ne_beq {a b : Int} (h : ¬ a = b) : (a == b) = false := beq_eq_false_iff_ne.2 h
section
variable {E : Chk} {Z : Nat → Prop} {wT : World} {c : Nat} {F : Fx} {N : Nat} {s : Cs} {kn : Bool} {st : Value} {w : World}
theorem pop_b (HE : Hid (Env E F.tb wT)) (HC : Hid (Ck E Z wT c F N s kn st w)) {b : ByteArray} {x : Bs} (hb : b = tx x) (hx : x.length ≤ ML) :
    Calls Tryz.prog 211 #[.pointer (some ⟨c, 0, none⟩), .string b] w (CkOut E Z wT c F N (s.pop E x) kn st w (.returned (.tuple #[]))) := by
  subst hb
  exact pop_c HE HC x hx
theorem push1_c (HE : Hid (Env E F.tb wT)) (HF : Hid (Fit E F wT)) (HC : Hid (Ck E Z wT c F N s kn st w)) {b : ByteArray} {x : Bs} (hb : b = tx x) (hx : x.length ≤ ML) :
    Calls Tryz.prog 209 #[.pointer (some ⟨c, 0, none⟩), .slice (some ⟨w.heap.size, 0, none⟩) 1 1] (w.alloc (.cells #[.string b] 9)) (CkOut E Z wT c F N (s.push E x) kn st w (.returned (.tuple #[]))) := by
  subst hb
  exact pushL_c HE [x] _ w.heap.size HC HF.out.ms (lhid ((Below.refl _ _).alloc (Nat.le_refl _) _)) (lhid (heap_alloc_new w _)) (Nat.le_refl _) (fun t ht => by rw [List.mem_singleton.1 ht]; exact hx) 1 rfl (by decide)
theorem push2_c (HE : Hid (Env E F.tb wT)) (HF : Hid (Fit E F wT)) (HC : Hid (Ck E Z wT c F N s kn st w)) (x y : Bs) (hx : x.length ≤ ML) (hy : y.length ≤ ML) :
    Calls Tryz.prog 209 #[.pointer (some ⟨c, 0, none⟩), .slice (some ⟨w.heap.size, 0, none⟩) 2 2] (w.alloc (.cells #[.string (tx x), .string (tx y)] 9)) (CkOut E Z wT c F N ((s.push E x).push E y) kn st w (.returned (.tuple #[]))) :=
  pushL_c HE [x, y] _ w.heap.size HC HF.out.ms (lhid ((Below.refl _ _).alloc (Nat.le_refl _) _)) (lhid (heap_alloc_new w _)) (Nat.le_refl _) (fun t ht => by
    rcases List.mem_cons.1 ht with rfl | ht
    · exact hx
    · rw [List.mem_singleton.1 ht]; exact hy) 2 rfl (by decide)
theorem push3_c (HE : Hid (Env E F.tb wT)) (HF : Hid (Fit E F wT)) (HC : Hid (Ck E Z wT c F N s kn st w)) (x y z : Bs) (hx : x.length ≤ ML) (hy : y.length ≤ ML) (hz : z.length ≤ ML) :
    Calls Tryz.prog 209 #[.pointer (some ⟨c, 0, none⟩), .slice (some ⟨w.heap.size, 0, none⟩) 3 3] (w.alloc (.cells #[.string (tx x), .string (tx y), .string (tx z)] 9)) (CkOut E Z wT c F N (((s.push E x).push E y).push E z) kn st w (.returned (.tuple #[]))) :=
  pushL_c HE [x, y, z] _ w.heap.size HC HF.out.ms (lhid ((Below.refl _ _).alloc (Nat.le_refl _) _)) (lhid (heap_alloc_new w _)) (Nat.le_refl _) (fun t ht => by
    rcases List.mem_cons.1 ht with rfl | ht
    · exact hx
    rcases List.mem_cons.1 ht with rfl | ht
    · exact hy
    · rw [List.mem_singleton.1 ht]; exact hz) 3 rfl (by decide)
theorem pooled1_c (HE : Hid (Env E F.tb wT)) (HF : Hid (Fit E F wT)) (HC : Hid (Ck E Z wT c F N s kn st w)) (n : Nat) (hn : n ≤ 4294967296) (k : Int) :
    Calls Tryz.prog 218 #[.pointer (some ⟨c, 0, none⟩), .int .i64 n, .slice (some ⟨w.heap.size, 0, none⟩) 1 1] (w.alloc (.cells #[.int .i64 k] 3)) (CkOut E Z wT c F N (s.pooled E n [k]).2 kn st w (.returned (coV (s.pooled E n [k]).1))) :=
  pooled_c HE HF HC n hn [k] _ w.heap.size 1 (lhid ((Below.refl _ _).alloc (Nat.le_refl _) _)) (lhid (heap_alloc_new w _)) (Nat.le_refl _) (lhid rfl) (by decide)
theorem pooled3_c (HE : Hid (Env E F.tb wT)) (HF : Hid (Fit E F wT)) (HC : Hid (Ck E Z wT c F N s kn st w)) (n : Nat) (hn : n ≤ 4294967296) (k k2 k3 : Int) :
    Calls Tryz.prog 218 #[.pointer (some ⟨c, 0, none⟩), .int .i64 n, .slice (some ⟨w.heap.size, 0, none⟩) 3 3] (w.alloc (.cells #[.int .i64 k, .int .i64 k2, .int .i64 k3] 3)) (CkOut E Z wT c F N (s.pooled E n [k, k2, k3]).2 kn st w (.returned (coV (s.pooled E n [k, k2, k3]).1))) :=
  pooled_c HE HF HC n hn [k, k2, k3] _ w.heap.size 3 (lhid ((Below.refl _ _).alloc (Nat.le_refl _) _)) (lhid (heap_alloc_new w _)) (Nat.le_refl _) (lhid rfl) (by decide)
theorem pooled_small (HE : Env E F.tb wT) (s : Cs) (n : Nat) (ks : List Int) : (s.pooled E n ks).1.text.length ≤ 4294967296 ∧ (s.pooled E n ks).1.desc.length ≤ 4294967296 := by
  have hz : noCo.text.length ≤ 4294967296 ∧ noCo.desc.length ≤ 4294967296 := ⟨Nat.zero_le _, Nat.zero_le _⟩
  unfold Cs.pooled
  dsimp only
  split
  · show (E.pool.getD n noCo).text.length ≤ _ ∧ (E.pool.getD n noCo).desc.length ≤ _
    by_cases h : n < E.pool.length
    · simp only [List.getD, List.getElem?_eq_getElem h, Option.getD_some]
      exact HE.l_pool _ (List.getElem_mem _)
    · have h2 : E.pool[n]? = none := List.getElem?_eq_none (by omega)
      simp only [List.getD, h2, Option.getD_none]
      exact hz
  · exact hz
set_option maxHeartbeats 400000 in
theorem typeOf_c (k : Int) (w : World) : Calls Tryz.prog 216 #[.int .i64 k] w fun e w' => e = .returned (.string (tx (tOf k))) ∧ w = w' := by
  by_cases h : k = 2
  · subst h
    go_enter Tryz.func216, Tryz.ntmps216
    go_wp2_with fail
    go_ret
    exact ⟨rfl, rfl⟩
  · have d := ne_beq h
    have hr : tOf k = tInt := by unfold tOf; rw [if_neg h]
    have HR := lhid hr
    clear h hr
    go_enter Tryz.func216, Tryz.ntmps216
    go_wp2_with fail
    go_ret
    exact ⟨by rw [HR.out]; rfl, rfl⟩
theorem tOf_len (k : Int) : (tOf k).length ≤ ML := by unfold tOf; split <;> decide
def retOf (k : Int) : Int := if k = 1 then 172 else if k = 2 then 173 else if k = 3 then 176 else 177
set_option maxHeartbeats 1000000 in
theorem returnOf_c (HE : Hid (Env E F.tb wT)) (x : Bs) (w : World) : Calls Tryz.prog 217 #[.string (tx x)] w fun e w' => e = .returned (.int .i64 (retOf (E.kind x))) ∧ w = w' := by
  obtain ⟨k, hk⟩ : ∃ k, E.kind x = k := ⟨_, rfl⟩
  have HK := lhid hk
  clear hk
  go_enter Tryz.func217, Tryz.ntmps217
  go_wp2_with fail
  with_reducible refine (HE.out.kind x w).mono ?_
  rintro e w1 ⟨rfl, rfl⟩
  rw [HK.out]
  by_cases h1 : k = 1
  · have HR : Hid (retOf k = 172) := lhid (by unfold retOf; rw [if_pos h1])
    have d1 : (k == 1) = true := by rw [h1]; rfl
    clear h1
    go_wp2_with fail
    go_ret
    exact ⟨by rw [HK.out, HR.out]; rfl, rfl⟩
  by_cases h2 : k = 2
  · have HR : Hid (retOf k = 173) := lhid (by unfold retOf; rw [if_neg h1, if_pos h2])
    have d1 := ne_beq h1
    have d2 : (k == 2) = true := by rw [h2]; rfl
    clear h1 h2
    go_wp2_with fail
    go_ret
    exact ⟨by rw [HK.out, HR.out]; rfl, rfl⟩
  by_cases h3 : k = 3
  · have HR : Hid (retOf k = 176) := lhid (by unfold retOf; rw [if_neg h1, if_neg h2, if_pos h3])
    have d1 := ne_beq h1
    have d2 := ne_beq h2
    have d3 : (k == 3) = true := by rw [h3]; rfl
    clear h1 h2 h3
    go_wp2_with fail
    go_ret
    exact ⟨by rw [HK.out, HR.out]; rfl, rfl⟩
  · have HR : Hid (retOf k = 177) := lhid (by unfold retOf; rw [if_neg h1, if_neg h2, if_neg h3])
    have d1 := ne_beq h1
    have d2 := ne_beq h2
    have d3 := ne_beq h3
    clear h1 h2 h3
    go_wp2_with fail
    go_ret
    exact ⟨by rw [HK.out, HR.out]; rfl, rfl⟩
set_option maxHeartbeats 4000000 in
set_option maxRecDepth 100000 in
theorem putElement_c (HE : Hid (Env E F.tb wT)) (HF : Hid (Fit E F wT)) (HC : Hid (Ck E Z wT c F N s kn st w)) (o : Int) :
    Calls Tryz.prog 163 #[.pointer (some ⟨c, 0, none⟩), .int .i64 o] w (CkOut E Z wT c F N (s.putE E o) kn st w (.returned (.tuple #[]))) := by
  go_enter Tryz.func163, Tryz.ntmps163
  by_cases h0 : o = 79
  · have HR : Hid (s.putE E o = ((s.pop E [73]).pop E [73]).pop E [91, 73]) := lhid (by unfold Cs.putE; rw [if_pos h0]; try rfl)
    have d0 : (o == 79) = true := by rw [h0]; rfl
    clear h0
    go_wp2_with fail
    with_reducible refine (pop_b HE HC tI (by decide)).mono ?_
    rintro e w1 ⟨rfl, hk, hc⟩
    have HK1 := lhid hk
    have HC1 := lhid hc
    clear hk hc
    go_wp2_with fail
    with_reducible refine (pop_b HE HK1 tI (by decide)).mono ?_
    rintro e w2 ⟨rfl, hk, hc⟩
    have HK2 := lhid hk
    have HC2 := lhid (HC1.out.tr hc)
    clear hk hc
    go_wp2_with fail
    with_reducible refine (pop_b HE HK2 tAI (by decide)).mono ?_
    rintro e w3 ⟨rfl, hk, hc⟩
    have HK3 := lhid hk
    have HC3 := lhid (HC2.out.tr hc)
    clear hk hc
    go_wp2_with fail
    go_end0
    rw [HR.out]
    exact ⟨rfl, HK3.out, HC3.out⟩
  by_cases h1 : o = 80
  · have HR : Hid (s.putE E o = ((s.pop E [74]).pop E [73]).pop E [91, 74]) := lhid (by unfold Cs.putE; rw [if_neg h0, if_pos h1]; try rfl)
    have d0 := ne_beq h0
    have d1 : (o == 80) = true := by rw [h1]; rfl
    clear h0 h1
    go_wp2_with fail
    with_reducible refine (pop_b HE HC tJ (by decide)).mono ?_
    rintro e w1 ⟨rfl, hk, hc⟩
    have HK1 := lhid hk
    have HC1 := lhid hc
    clear hk hc
    go_wp2_with fail
    with_reducible refine (pop_b HE HK1 tI (by decide)).mono ?_
    rintro e w2 ⟨rfl, hk, hc⟩
    have HK2 := lhid hk
    have HC2 := lhid (HC1.out.tr hc)
    clear hk hc
    go_wp2_with fail
    with_reducible refine (pop_b HE HK2 tAJ (by decide)).mono ?_
    rintro e w3 ⟨rfl, hk, hc⟩
    have HK3 := lhid hk
    have HC3 := lhid (HC2.out.tr hc)
    clear hk hc
    go_wp2_with fail
    go_end0
    rw [HR.out]
    exact ⟨rfl, HK3.out, HC3.out⟩
  by_cases h2 : o = 83
  · have HR : Hid (s.putE E o = (((s.popRef E).2.pop E [73]).popRefs E).2) := lhid (by unfold Cs.putE; rw [if_neg h0, if_neg h1, if_pos h2]; try rfl)
    have d0 := ne_beq h0
    have d1 := ne_beq h1
    have d2 : (o == 83) = true := by rw [h2]; rfl
    clear h0 h1 h2
    go_wp2_with fail
    with_reducible refine (popRef_c HE HC).mono ?_
    rintro e w1 ⟨rfl, hk, hc⟩
    have HK1 := lhid hk
    have HC1 := lhid hc
    clear hk hc
    go_wp2_with fail
    with_reducible refine (pop_b HE HK1 tI (by decide)).mono ?_
    rintro e w2 ⟨rfl, hk, hc⟩
    have HK2 := lhid hk
    have HC2 := lhid (HC1.out.tr hc)
    clear hk hc
    go_wp2_with fail
    with_reducible refine (popRefs_c HE HK2).mono ?_
    rintro e w3 ⟨rfl, hk, hc⟩
    have HK3 := lhid hk
    have HC3 := lhid (HC2.out.tr hc)
    clear hk hc
    go_wp2_with fail
    go_end0
    rw [HR.out]
    exact ⟨rfl, HK3.out, HC3.out⟩
  · have HR : Hid (s.putE E o = s) := lhid (by unfold Cs.putE; rw [if_neg h0, if_neg h1, if_neg h2]; try rfl)
    have d0 := ne_beq h0
    have d1 := ne_beq h1
    have d2 := ne_beq h2
    clear h0 h1 h2
    go_wp2_with fail
    go_end0
    rw [HR.out]
    exact ⟨rfl, HC.out, Ch.refl _ _⟩
theorem Ck.smallR (h : Ck E Z wT c F N s kn st w) {tb : Nat} {wX : World} (HE : Env E tb wX) : (s.popRefs E).1.length ≤ ML := by
  unfold Cs.popRefs
  split
  · exact (by decide : ([78] : Bs).length ≤ ML)
  · exact Nat.le_trans (HE.l_elem _) h.smallT
set_option maxHeartbeats 4000000 in
set_option maxRecDepth 100000 in
theorem getElement_c (HE : Hid (Env E F.tb wT)) (HF : Hid (Fit E F wT)) (HC : Hid (Ck E Z wT c F N s kn st w)) (o : Int) :
    Calls Tryz.prog 161 #[.pointer (some ⟨c, 0, none⟩), .int .i64 o] w (CkOut E Z wT c F N (s.getE E o) kn st w (.returned (.tuple #[]))) := by
  go_enter Tryz.func161, Tryz.ntmps161
  go_wp2_with fail
  with_reducible refine (pop_b HE HC tI (by decide)).mono ?_
  rintro e w1 ⟨rfl, hk, hc⟩
  have HK1 := lhid hk
  have HC1 := lhid hc
  clear hk hc
  by_cases h0 : o = 46
  · have HR : Hid (s.getE E o = ((s.pop E [73]).pop E [91, 73]).push E [73]) := lhid (by unfold Cs.getE; rw [if_pos h0]; try rfl)
    have d0 : (o == 46) = true := by rw [h0]; rfl
    clear h0
    go_wp2_with fail
    with_reducible refine (pop_b HE HK1 tAI (by decide)).mono ?_
    rintro e w2 ⟨rfl, hk, hc⟩
    have HK2 := lhid hk
    have HC2 := lhid (HC1.out.tr hc)
    clear hk hc
    go_wp2_with fail
    with_reducible refine (push1_c HE HF HK2 tI (by decide)).mono ?_
    rintro e w3 ⟨rfl, hk, hc⟩
    have HK3 := lhid hk
    have HC3 := lhid (HC2.out.tr hc)
    clear hk hc
    go_wp2_with fail
    go_end0
    rw [HR.out]
    exact ⟨rfl, HK3.out, HC3.out⟩
  by_cases h1 : o = 47
  · have HR : Hid (s.getE E o = ((s.pop E [73]).pop E [91, 74]).push E [74]) := lhid (by unfold Cs.getE; rw [if_neg h0, if_pos h1]; try rfl)
    have d0 := ne_beq h0
    have d1 : (o == 47) = true := by rw [h1]; rfl
    clear h0 h1
    go_wp2_with fail
    with_reducible refine (pop_b HE HK1 tAJ (by decide)).mono ?_
    rintro e w2 ⟨rfl, hk, hc⟩
    have HK2 := lhid hk
    have HC2 := lhid (HC1.out.tr hc)
    clear hk hc
    go_wp2_with fail
    with_reducible refine (push1_c HE HF HK2 tJ (by decide)).mono ?_
    rintro e w3 ⟨rfl, hk, hc⟩
    have HK3 := lhid hk
    have HC3 := lhid (HC2.out.tr hc)
    clear hk hc
    go_wp2_with fail
    go_end0
    rw [HR.out]
    exact ⟨rfl, HK3.out, HC3.out⟩
  by_cases h2 : o = 50
  · have HR : Hid (s.getE E o = ((s.pop E [73]).popRefs E).2.push E ((s.pop E [73]).popRefs E).1) := lhid (by unfold Cs.getE; rw [if_neg h0, if_neg h1, if_pos h2]; try rfl)
    have d0 := ne_beq h0
    have d1 := ne_beq h1
    have d2 : (o == 50) = true := by rw [h2]; rfl
    clear h0 h1 h2
    go_wp2_with fail
    with_reducible refine (popRefs_c HE HK1).mono ?_
    rintro e w2 ⟨rfl, hk, hc⟩
    have HK2 := lhid hk
    have HC2 := lhid (HC1.out.tr hc)
    have HP := HK1.out.smallR HE.out
    clear hk hc
    go_wp2_with fail
    with_reducible refine (push1_c HE HF HK2 (rfl : (tx ((s.pop E [73]).popRefs E).1) = tx ((s.pop E [73]).popRefs E).1) HP).mono ?_
    rintro e w3 ⟨rfl, hk, hc⟩
    have HK3 := lhid hk
    have HC3 := lhid (HC2.out.tr hc)
    clear hk hc
    go_wp2_with fail
    go_end0
    rw [HR.out]
    exact ⟨rfl, HK3.out, HC3.out⟩
  · have HR : Hid (s.getE E o = s.pop E [73]) := lhid (by unfold Cs.getE; rw [if_neg h0, if_neg h1, if_neg h2]; try rfl)
    have d0 := ne_beq h0
    have d1 := ne_beq h1
    have d2 := ne_beq h2
    clear h0 h1 h2
    go_wp2_with fail
    go_end0
    rw [HR.out]
    exact ⟨rfl, HK1.out, HC1.out⟩
set_option maxHeartbeats 4000000 in
set_option maxRecDepth 100000 in
theorem turn_c (HE : Hid (Env E F.tb wT)) (HF : Hid (Fit E F wT)) (HC : Hid (Ck E Z wT c F N s kn st w)) (o : Int) :
    Calls Tryz.prog 164 #[.pointer (some ⟨c, 0, none⟩), .int .i64 o] w (CkOut E Z wT c F N (s.turn E o) kn st w (.returned (.tuple #[]))) := by
  go_enter Tryz.func164, Tryz.ntmps164
  go_wp2_with fail
  with_reducible refine (take_c HC).mono ?_
  rintro e w1 ⟨rfl, hk, hc⟩
  have HK1 := lhid hk
  have HC1 := lhid hc
  have hA := HC.out.smallT
  have hB := hk.smallT
  clear hk hc
  by_cases h0 : o = 89
  · have HR : Hid (s.turn E o = (s.take.2.push E s.take.1).push E s.take.1) := lhid (by unfold Cs.turn; rw [if_pos h0]; try rfl)
    have d0 : (o == 89) = true := by rw [h0]; rfl
    clear h0
    go_wp2_with fail
    with_reducible refine (push2_c HE HF HK1 _ _ hA hA).mono ?_
    rintro e w2 ⟨rfl, hk, hc⟩
    have HK2 := lhid hk
    have HC2 := lhid (HC1.out.tr hc)
    clear hk hc
    go_wp2_with fail
    go_end0
    rw [HR.out]
    exact ⟨rfl, HK2.out, HC2.out⟩
  by_cases h1 : o = 90
  · have HR : Hid (s.turn E o = ((s.take.2.take.2.push E s.take.1).push E s.take.2.take.1).push E s.take.1) := lhid (by unfold Cs.turn; rw [if_neg h0, if_pos h1]; try rfl)
    have d0 := ne_beq h0
    have d1 : (o == 90) = true := by rw [h1]; rfl
    clear h0 h1
    go_wp2_with fail
    with_reducible refine (take_c HK1).mono ?_
    rintro e w2 ⟨rfl, hk, hc⟩
    have HK2 := lhid hk
    have HC2 := lhid (HC1.out.tr hc)
    clear hk hc
    go_wp2_with fail
    with_reducible refine (push3_c HE HF HK2 _ _ _ hA hB hA).mono ?_
    rintro e w3 ⟨rfl, hk, hc⟩
    have HK3 := lhid hk
    have HC3 := lhid (HC2.out.tr hc)
    clear hk hc
    go_wp2_with fail
    go_end0
    rw [HR.out]
    exact ⟨rfl, HK3.out, HC3.out⟩
  by_cases h2 : o = 95
  · have HR : Hid (s.turn E o = (s.take.2.take.2.push E s.take.1).push E s.take.2.take.1) := lhid (by unfold Cs.turn; rw [if_neg h0, if_neg h1, if_pos h2]; try rfl)
    have d0 := ne_beq h0
    have d1 := ne_beq h1
    have d2 : (o == 95) = true := by rw [h2]; rfl
    clear h0 h1 h2
    go_wp2_with fail
    with_reducible refine (take_c HK1).mono ?_
    rintro e w2 ⟨rfl, hk, hc⟩
    have HK2 := lhid hk
    have HC2 := lhid (HC1.out.tr hc)
    clear hk hc
    go_wp2_with fail
    with_reducible refine (push2_c HE HF HK2 _ _ hA hB).mono ?_
    rintro e w3 ⟨rfl, hk, hc⟩
    have HK3 := lhid hk
    have HC3 := lhid (HC2.out.tr hc)
    clear hk hc
    go_wp2_with fail
    go_end0
    rw [HR.out]
    exact ⟨rfl, HK3.out, HC3.out⟩
  · have HR : Hid (s.turn E o = s.take.2) := lhid (by unfold Cs.turn; rw [if_neg h0, if_neg h1, if_neg h2]; try rfl)
    have d0 := ne_beq h0
    have d1 := ne_beq h1
    have d2 := ne_beq h2
    clear h0 h1 h2
    go_wp2_with fail
    go_end0
    rw [HR.out]
    exact ⟨rfl, HK1.out, HC1.out⟩
set_option maxHeartbeats 4000000 in
set_option maxRecDepth 100000 in
theorem compute_c (HE : Hid (Env E F.tb wT)) (HF : Hid (Fit E F wT)) (HC : Hid (Ck E Z wT c F N s kn st w)) (o : Int) (HO : Hid (0 ≤ o ∧ o ≤ 255)) :
    Calls Tryz.prog 167 #[.pointer (some ⟨c, 0, none⟩), .int .i64 o] w (CkOut E Z wT c F N (s.compute E o) kn st w (.returned (.tuple #[]))) := by
  obtain ⟨k1, h1⟩ : ∃ k, (E.kinds o).1 = k := ⟨_, rfl⟩
  obtain ⟨k2, h2⟩ : ∃ k, (E.kinds o).2.1 = k := ⟨_, rfl⟩
  obtain ⟨k3, h3⟩ : ∃ k, (E.kinds o).2.2 = k := ⟨_, rfl⟩
  have HKI : Hid ((E.kinds o).1 = k1 ∧ (E.kinds o).2.1 = k2 ∧ (E.kinds o).2.2 = k3) := lhid ⟨h1, h2, h3⟩
  clear h1 h2 h3
  go_enter Tryz.func167, Tryz.ntmps167
  go_wp2_with fail
  with_reducible refine (HE.out.kinds o w HO.out).mono ?_
  rintro e w1 ⟨rfl, rfl⟩
  rw [HKI.out.1, HKI.out.2.1, HKI.out.2.2]
  by_cases h0 : k2 = 0
  · have HR : Hid (s.compute E o = (s.pop E (tOf k1)).push E (tOf k3)) := lhid (by unfold Cs.compute; dsimp only; rw [HKI.out.1, HKI.out.2.1, HKI.out.2.2, if_pos h0])
    have d0 : (k2 == 0) = true := by rw [h0]; rfl
    clear h0
    go_wp2_with fail
    with_reducible refine (typeOf_c k1 _).mono ?_
    rintro e w9 ⟨rfl, rfl⟩
    go_wp2_with fail
    with_reducible refine (pop_c HE HC (tOf k1) (tOf_len k1)).mono ?_
    rintro e w1 ⟨rfl, hk, hc⟩
    have HK1 := lhid hk
    have HC1 := lhid hc
    clear hk hc
    go_wp2_with fail
    with_reducible refine (typeOf_c k3 _).mono ?_
    rintro e w9 ⟨rfl, rfl⟩
    go_wp2_with fail
    with_reducible refine (push1_c HE HF HK1 (rfl : (tx (tOf k3)) = tx (tOf k3)) (tOf_len k3)).mono ?_
    rintro e w2 ⟨rfl, hk, hc⟩
    have HK2 := lhid hk
    have HC2 := lhid (HC1.out.tr hc)
    clear hk hc
    go_wp2_with fail
    go_end0
    rw [HR.out]
    exact ⟨rfl, HK2.out, HC2.out⟩
  · have HR : Hid (s.compute E o = ((s.pop E (tOf k2)).pop E (tOf k1)).push E (tOf k3)) := lhid (by unfold Cs.compute; dsimp only; rw [HKI.out.1, HKI.out.2.1, HKI.out.2.2, if_neg h0])
    have d0 := ne_beq h0
    clear h0
    go_wp2_with fail
    with_reducible refine (typeOf_c k2 _).mono ?_
    rintro e w9 ⟨rfl, rfl⟩
    go_wp2_with fail
    with_reducible refine (pop_c HE HC (tOf k2) (tOf_len k2)).mono ?_
    rintro e w1 ⟨rfl, hk, hc⟩
    have HK1 := lhid hk
    have HC1 := lhid hc
    clear hk hc
    go_wp2_with fail
    with_reducible refine (typeOf_c k1 _).mono ?_
    rintro e w9 ⟨rfl, rfl⟩
    go_wp2_with fail
    with_reducible refine (pop_c HE HK1 (tOf k1) (tOf_len k1)).mono ?_
    rintro e w2 ⟨rfl, hk, hc⟩
    have HK2 := lhid hk
    have HC2 := lhid (HC1.out.tr hc)
    clear hk hc
    go_wp2_with fail
    with_reducible refine (typeOf_c k3 _).mono ?_
    rintro e w9 ⟨rfl, rfl⟩
    go_wp2_with fail
    with_reducible refine (push1_c HE HF HK2 (rfl : (tx (tOf k3)) = tx (tOf k3)) (tOf_len k3)).mono ?_
    rintro e w3 ⟨rfl, hk, hc⟩
    have HK3 := lhid hk
    have HC3 := lhid (HC2.out.tr hc)
    clear hk hc
    go_wp2_with fail
    go_end0
    rw [HR.out]
    exact ⟨rfl, HK3.out, HC3.out⟩
set_option maxHeartbeats 4000000 in
set_option maxRecDepth 100000 in
theorem compare_c (HE : Hid (Env E F.tb wT)) (HF : Hid (Fit E F wT)) (HC : Hid (Ck E Z wT c F N s kn st w)) (o : Int) :
    Calls Tryz.prog 168 #[.pointer (some ⟨c, 0, none⟩), .int .i64 o] w (CkOut E Z wT c F N (s.compare E o) kn st w (.returned (.tuple #[]))) := by
  go_enter Tryz.func168, Tryz.ntmps168
  by_cases h0 : o ≤ 158
  · have HR : Hid (s.compare E o = s.pop E [73]) := lhid (by unfold Cs.compare; rw [if_pos h0]; try rfl)
    go_wp2_with fail
    with_reducible refine (pop_b HE HC tI (by decide)).mono ?_
    rintro e w1 ⟨rfl, hk, hc⟩
    have HK1 := lhid hk
    have HC1 := lhid hc
    clear hk hc
    go_wp2_with fail
    go_end0
    rw [HR.out]
    exact ⟨rfl, HK1.out, HC1.out⟩
  by_cases h1 : o ≤ 164
  · have HR : Hid (s.compare E o = (s.pop E [73]).pop E [73]) := lhid (by unfold Cs.compare; rw [if_neg h0, if_pos h1]; try rfl)
    go_wp2_with fail
    with_reducible refine (pop_b HE HC tI (by decide)).mono ?_
    rintro e w1 ⟨rfl, hk, hc⟩
    have HK1 := lhid hk
    have HC1 := lhid hc
    clear hk hc
    go_wp2_with fail
    with_reducible refine (pop_b HE HK1 tI (by decide)).mono ?_
    rintro e w2 ⟨rfl, hk, hc⟩
    have HK2 := lhid hk
    have HC2 := lhid (HC1.out.tr hc)
    clear hk hc
    go_wp2_with fail
    go_end0
    rw [HR.out]
    exact ⟨rfl, HK2.out, HC2.out⟩
  by_cases h2 : o ≤ 166
  · have HR : Hid (s.compare E o = ((s.popRef E).2.popRef E).2) := lhid (by unfold Cs.compare; rw [if_neg h0, if_neg h1, if_pos h2]; try rfl)
    go_wp2_with fail
    with_reducible refine (popRef_c HE HC).mono ?_
    rintro e w1 ⟨rfl, hk, hc⟩
    have HK1 := lhid hk
    have HC1 := lhid hc
    clear hk hc
    go_wp2_with fail
    with_reducible refine (popRef_c HE HK1).mono ?_
    rintro e w2 ⟨rfl, hk, hc⟩
    have HK2 := lhid hk
    have HC2 := lhid (HC1.out.tr hc)
    clear hk hc
    go_wp2_with fail
    go_end0
    rw [HR.out]
    exact ⟨rfl, HK2.out, HC2.out⟩
  by_cases h3 : 198 ≤ o
  · have HR : Hid (s.compare E o = (s.popRef E).2) := lhid (by unfold Cs.compare; rw [if_neg h0, if_neg h1, if_neg h2, if_pos h3]; try rfl)
    go_wp2_with fail
    with_reducible refine (popRef_c HE HC).mono ?_
    rintro e w1 ⟨rfl, hk, hc⟩
    have HK1 := lhid hk
    have HC1 := lhid hc
    clear hk hc
    go_wp2_with fail
    go_end0
    rw [HR.out]
    exact ⟨rfl, HK1.out, HC1.out⟩
  · have HR : Hid (s.compare E o = s) := lhid (by unfold Cs.compare; rw [if_neg h0, if_neg h1, if_neg h2, if_neg h3]; try rfl)
    go_wp2_with fail
    go_end0
    rw [HR.out]
    exact ⟨rfl, HC.out, Ch.refl _ _⟩
set_option maxHeartbeats 4000000 in
set_option maxRecDepth 100000 in
theorem giveBack_c (HE : Hid (Env E F.tb wT)) (HF : Hid (Fit E F wT)) (HC : Hid (Ck E Z wT c F N s kn st w)) (o : Int) :
    Calls Tryz.prog 169 #[.pointer (some ⟨c, 0, none⟩), .int .i64 o] w (CkOut E Z wT c F N (s.giveBack E o) kn st w (.returned (.tuple #[]))) := by
  have c17 : w.cell? ⟨c, 17, none⟩ = some (.string (tx E.gives)) := by
    obtain ⟨vl, vs, hc, _⟩ := HC.out.it
    rw [← HF.out.gives]
    exact heap_cell hc rfl
  have hlg := HE.out.l_gives
  go_enter Tryz.func169, Tryz.ntmps169
  go_wp2_with fail
  with_reducible refine (returnOf_c HE E.gives w).mono ?_
  rintro e w9 ⟨rfl, rfl⟩
  obtain ⟨b, hb⟩ : ∃ b, (o != retOf (E.kind E.gives)) = b := ⟨_, rfl⟩
  have HBB := lhid hb
  clear hb
  go_wp2_with fail
  with_reducible refine (refuse_k HC (b' := b) ?hb 62).mono ?_
  case hb => exact HBB.out
  rintro e w1 ⟨⟨rfl, hk, hc⟩, hcb, hcc⟩
  have HK1 := lhid hk
  have HC1 := lhid hc
  have g17 := (hcc 17 (by decide)).trans c17
  clear hk hc hcb hcc c17
  obtain ⟨x, hx⟩ : ∃ x, E.gives = x := ⟨_, rfl⟩
  have hgb : s.giveBack E o = if E.gives = tVoid then s.refuse b 62 else (s.refuse b 62).pop E E.gives := by
    unfold Cs.giveBack
    dsimp only
    rw [show decide (o ≠ if E.kind E.gives = 1 then 172 else if E.kind E.gives = 2 then 173 else if E.kind E.gives = 3 then 176 else 177) = b by rw [← HBB.out]; unfold retOf; rw [Bool.eq_iff_iff]; simp]
  rw [hx] at g17 hlg hgb
  by_cases h0 : x = [86]
  · have HR : Hid (s.giveBack E o = s.refuse b 62) := lhid (hgb.trans (if_pos h0))
    have d0 : ((tx x).toList == [86]) = true := by rw [tx_toL, h0]; rfl
    clear h0 hgb hx
    go_wp2_with fail
    go_end0
    rw [HR.out]
    exact ⟨rfl, HK1.out, HC1.out⟩
  · have HR : Hid (s.giveBack E o = (s.refuse b 62).pop E x) := lhid (hgb.trans (if_neg h0))
    have d0 : ((tx x).toList == [86]) = false := by rw [tx_toL, beq_eq_false_iff_ne]; exact h0
    clear h0 hgb hx
    go_wp2_with fail
    with_reducible refine (pop_c HE HK1 x hlg).mono ?_
    rintro e w2 ⟨rfl, hk, hc⟩
    have HK2 := lhid hk
    have HC2 := lhid (HC1.out.tr hc)
    clear hk hc
    go_wp2_with fail
    go_end0
    rw [HR.out]
    exact ⟨rfl, HK2.out, HC2.out⟩
end
end Go.Proofs.YtpdnonlelocfbaaGreatDoor
/- Package check: the groups of the table that look into an instruction: tell, load, store; what is got of a constant of a class. -/
namespace Go.Proofs.YtpdnonlelocfbaaGreatDoor
open Go.RowKit Go Go.Maps
set_option linter.unusedVariables false
section
variable {E : Chk} {Z : Nat → Prop} {wT : World} {c : Nat} {F : Fx} {N : Nat} {s : Cs} {kn : Bool} {st : Value} {w : World}
/-- A block that is laid beside the checker stays as it is. -/
theorem Ck.box (h : Ck E Z wT c F N s kn st w) {w1 : World} (hb : Below w.heap.size w w1) {B : Nat} (hB : w.heap.size ≤ B) (hB1 : B < w1.heap.size) : Ck E (fun k => Z k ∧ k ≠ B) wT c F N s kn st w1 := by
  have h1 := h.below hb
  have hne : ∀ k, k < w.heap.size → k ≠ B := fun k hk => by omega
  obtain ⟨vl, vs, hc, hl, hs, hd⟩ := h.it
  refine ⟨h1.std, fun k hk => h.low k hk.1, fun k hk => ⟨h1.new k hk, by omega⟩, ⟨h.cz, hne c (heap_lt hc)⟩, ⟨h.bz, hne _ h.ask.lt⟩, ⟨vl, vs, (hb.block _ (heap_lt hc)).trans hc, ?_, ?_, hd⟩, h1.ask⟩
  · have := hl.below hb
    exact ⟨this.row, fun k hk => ⟨hl.zone k hk, hne k (hl.row.lt k hk).2⟩, this.small⟩
  · have := hs.below hb
    exact ⟨this.row, fun k hk => ⟨hs.zone k hk, hne k (hs.row.lt k hk).2⟩, this.small⟩
theorem Ck.unbox {Z' : Nat → Prop} {s' : Cs} {kn' : Bool} {st' : Value} {M : Nat} {w' : World} (h' : Ck E Z' wT c F M s' kn' st' w') (h : Ck E Z wT c F N s kn st w) (hs : ∀ k, Z' k → Z k) (hsz : w.heap.size ≤ w'.heap.size) : Ck E Z wT c F M s' kn' st' w' := by
  obtain ⟨vl, vs, hc, hl, hss, hd⟩ := h'.it
  exact ⟨h'.std, h.low, fun k hk => h.new k (Nat.le_trans hsz hk), hs _ h'.cz, hs _ h'.bz, ⟨vl, vs, hc, ⟨hl.row, fun k hk => hs k (hl.zone k hk), hl.small⟩, ⟨hss.row, fun k hk => hs k (hss.zone k hk), hss.small⟩, hd⟩, h'.ask⟩
/-- What a word of a checker leaves beside a block of the caller's. -/
theorem ckOut_box {B : Nat} {s' : Cs} {kn' : Bool} {st' : Value} {M : Nat} {a b : World} {r e : Ending} (h : Ck E Z wT c F N s kn st w) (hb : Below w.heap.size w a) (k : Ck E (fun k => Z k ∧ k ≠ B) wT c F M s' kn' st' b) (hc : Ch (fun k => Z k ∧ k ≠ B) a b) (hr : e = r) : CkOut E Z wT c F M s' kn' st' w r e b :=
  ⟨hr, k.unbox h (fun _ h => h.1) (Nat.le_trans hb.size hc.size), (Ch.of hb).tr (hc.mono fun _ _ h => h.1)⟩
theorem box_keep {B : Nat} {a b : World} {o : Obj} (hc : Ch (fun k => Z k ∧ k ≠ B) a b) (h : a.heap[B]? = some o) : b.heap[B]? = some o := hc.keep h fun h => h.2 rfl
theorem cast_i32 (x : Int) (r : Int) (h : r = wrap64 (wrap32 x)) : (x != r) = decide (¬ (-2147483648 ≤ x ∧ x ≤ 2147483647)) := by
  subst h
  rw [Bool.eq_iff_iff]
  simp only [bne_iff_ne, ne_eq, decide_eq_true_iff]
  unfold wrap64 wrap32
  omega
set_option maxHeartbeats 4000000 in
set_option maxRecDepth 100000 in
theorem pooledType_c (HE : Hid (Env E F.tb wT)) (HF : Hid (Fit E F wT)) (HC : Hid (Ck E Z wT c F N s kn st w)) (n : Nat) (hn : n ≤ 4294967296) :
    Calls Tryz.prog 224 #[.pointer (some ⟨c, 0, none⟩), .int .i64 n] w (CkOut E Z wT c F N ((s.pooled E n [7]).2) kn st w (.returned (.string (tx (E.of (s.pooled E n [7]).1.text))))) := by
  go_enter Tryz.func224, Tryz.ntmps224
  go_wp2_with fail
  with_reducible refine (pooled1_c HE HF HC n hn 7).mono ?_
  rintro e w1 ⟨rfl, hk, hc⟩
  have HK1 := lhid hk
  have HC1 := lhid hc
  clear hk hc
  have hsm := (pooled_small HE.out s n [7]).1
  have hrun : ∀ (x : CoI) (W : World), (Instr.field 213 (coV x) 2).run Tryz.prog W = .ok (.string (tx x.text)) W := fun _ _ => by kernel_rfl
  go_wp2_with fail
  with_reducible refine (HE.out.of _ _ (Nat.le_trans hsm (by decide))).mono ?_
  rintro e w9 ⟨rfl, rfl⟩
  go_wp2_with fail
  go_ret
  exact ⟨rfl, HK1.out, HC1.out⟩
set_option maxHeartbeats 4000000 in
set_option maxRecDepth 100000 in
theorem looked_c (HE : Hid (Env E F.tb wT)) (HF : Hid (Fit E F wT)) (HC : Hid (Ck E Z wT c F N s kn st w)) (n : Nat) (hn : n ≤ 4294967296) :
    Calls Tryz.prog 225 #[.pointer (some ⟨c, 0, none⟩), .int .i64 n] w (CkOut E Z wT c F N ((((s.pooled E n [7]).2.know E (E.of (s.pooled E n [7]).1.text)).popRef E).2) kn st w (.returned (.string (tx (E.of (s.pooled E n [7]).1.text))))) := by
  go_enter Tryz.func225, Tryz.ntmps225
  have hsm := (pooled_small HE.out s n [7]).1
  have hol := HE.out.l_of (s.pooled E n [7]).1.text
  have hml : (E.of (s.pooled E n [7]).1.text).length ≤ ML := Nat.le_trans (Nat.le_trans hol (Nat.add_le_add_right hsm 2)) (by decide)
  have HML := lhid hml
  clear hsm hol hml
  go_wp2_with fail
  with_reducible refine (pooledType_c HE HF HC n hn).mono ?_
  rintro e w1 ⟨rfl, hk, hc⟩
  have HK1 := lhid hk
  have HC1 := lhid hc
  clear hk hc
  go_wp2_with fail
  with_reducible refine (know_c HE HK1 _ HML.out).mono ?_
  rintro e w2 ⟨rfl, hk, hc⟩
  have HK2 := lhid hk
  have HC2 := lhid (HC1.out.tr hc)
  clear hk hc
  go_wp2_with fail
  with_reducible refine (popRef_c HE HK2).mono ?_
  rintro e w3 ⟨rfl, hk, hc⟩
  have HK3 := lhid hk
  have HC3 := lhid (HC2.out.tr hc)
  clear hk hc
  go_wp2_with fail
  go_ret
  exact ⟨rfl, HK3.out, HC3.out⟩
set_option maxHeartbeats 4000000 in
set_option maxRecDepth 100000 in
theorem tellConstant_c (HE : Hid (Env E F.tb wT)) (HF : Hid (Fit E F wT)) (HC : Hid (Ck E Z wT c F N s kn st w)) (n : Nat) (hn : n ≤ 4294967296) :
    Calls Tryz.prog 210 #[.pointer (some ⟨c, 0, none⟩), .int .i64 n] w (CkOut E Z wT c F N (s.tellC E n) kn st w (.returned (.tuple #[]))) := by
  go_enter Tryz.func210, Tryz.ntmps210
  go_wp2_with fail
  with_reducible refine (pooled3_c HE HF HC n hn 3 5 8).mono ?_
  rintro e w1 ⟨rfl, hk, hc⟩
  have hT : s.tellC E n = if (s.pooled E n [3, 5, 8]).1.kind = 3 then ((s.pooled E n [3, 5, 8]).2.refuse (decide (¬ (-2147483648 ≤ (s.pooled E n [3, 5, 8]).1.num ∧ (s.pooled E n [3, 5, 8]).1.num ≤ 2147483647))) 12).push E [73]
    else if (s.pooled E n [3, 5, 8]).1.kind = 5 then (s.pooled E n [3, 5, 8]).2.push E [74] else if (s.pooled E n [3, 5, 8]).1.kind = 8 then (s.pooled E n [3, 5, 8]).2.push E [76, 83, 116, 114, 105, 110, 103, 59] else (s.pooled E n [3, 5, 8]).2 := rfl
  obtain ⟨x, hx⟩ : ∃ x, (s.pooled E n [3, 5, 8]).1 = x := ⟨_, rfl⟩
  obtain ⟨s1, hs1⟩ : ∃ x, (s.pooled E n [3, 5, 8]).2 = x := ⟨_, rfl⟩
  rw [hx, hs1] at hT
  rw [hs1] at hk
  rw [hx]
  unfold coV
  have hb2 := (Below.refl w1.heap.size w1).alloc (Nat.le_refl _) (.cells #[.int .i64 x.kind, .int .i64 x.num, .string (tx x.text), .string (tx x.name), .string (tx x.desc)] 213)
  have hz2 := heap_alloc_new w1 (.cells #[.int .i64 x.kind, .int .i64 x.num, .string (tx x.text), .string (tx x.name), .string (tx x.desc)] 213)
  have c0 : (w1.alloc (.cells #[.int .i64 x.kind, .int .i64 x.num, .string (tx x.text), .string (tx x.name), .string (tx x.desc)] 213)).cell? ⟨w1.heap.size, 0, none⟩ = some (.int .i64 x.kind) := heap_cell hz2 rfl
  have c1 : (w1.alloc (.cells #[.int .i64 x.kind, .int .i64 x.num, .string (tx x.text), .string (tx x.name), .string (tx x.desc)] 213)).cell? ⟨w1.heap.size, 1, none⟩ = some (.int .i64 x.num) := heap_cell hz2 rfl
  have HK2 := lhid (hk.below hb2)
  have HC2 := lhid (hc.tr (Ch.of hb2))
  have HT := lhid hT
  clear hk hc hT hx hs1 hb2 hz2
  go_upto_region 1 with fail
  generalize w1.alloc (.cells #[.int .i64 x.kind, .int .i64 x.num, .string (tx x.text), .string (tx x.name), .string (tx x.desc)] 213) = w2 at *
  by_cases h0 : x.kind = 3
  · have HR : Hid (s.tellC E n = (s1.refuse (decide (¬ (-2147483648 ≤ x.num ∧ x.num ≤ 2147483647))) 12).push E [73]) := lhid (by rw [HT.out, if_pos h0])
    have d0 : (x.kind == 3) = true := by rw [h0]; rfl
    clear h0
    go_wp2_with fail
    with_reducible refine (refuse_b HK2 (cast_i32 x.num _ rfl) 12).mono ?_
    rintro e w3 ⟨rfl, hk, hc⟩
    have HK3 := lhid hk
    have HC3 := lhid (HC2.out.tr hc)
    clear hk hc
    go_wp2_with fail
    with_reducible refine (push1_c HE HF HK3 tI (by decide)).mono ?_
    rintro e w4 ⟨rfl, hk, hc⟩
    have HK4 := lhid hk
    have HC4 := lhid (HC3.out.tr hc)
    clear hk hc
    go_wp2_with fail
    go_end0
    rw [HR.out]
    exact ⟨rfl, HK4.out, HC4.out⟩
  by_cases h1 : x.kind = 5
  · have HR : Hid (s.tellC E n = s1.push E [74]) := lhid (by rw [HT.out, if_neg h0, if_pos h1])
    have d0 := ne_beq h0
    have d1 : (x.kind == 5) = true := by rw [h1]; rfl
    clear h0 h1
    go_wp2_with fail
    with_reducible refine (push1_c HE HF HK2 tJ (by decide)).mono ?_
    rintro e w3 ⟨rfl, hk, hc⟩
    have HK3 := lhid hk
    have HC3 := lhid (HC2.out.tr hc)
    clear hk hc
    go_wp2_with fail
    go_end0
    rw [HR.out]
    exact ⟨rfl, HK3.out, HC3.out⟩
  by_cases h2 : x.kind = 8
  · have HR : Hid (s.tellC E n = s1.push E [76, 83, 116, 114, 105, 110, 103, 59]) := lhid (by rw [HT.out, if_neg h0, if_neg h1, if_pos h2])
    have d0 := ne_beq h0
    have d1 := ne_beq h1
    have d2 : (x.kind == 8) = true := by rw [h2]; rfl
    clear h0 h1 h2
    go_wp2_with fail
    with_reducible refine (push1_c HE HF HK2 tTx (by decide)).mono ?_
    rintro e w3 ⟨rfl, hk, hc⟩
    have HK3 := lhid hk
    have HC3 := lhid (HC2.out.tr hc)
    clear hk hc
    go_wp2_with fail
    go_end0
    rw [HR.out]
    exact ⟨rfl, HK3.out, HC3.out⟩
  · have HR : Hid (s.tellC E n = s1) := lhid (by rw [HT.out, if_neg h0, if_neg h1, if_neg h2])
    have d0 := ne_beq h0
    have d1 := ne_beq h1
    have d2 := ne_beq h2
    clear h0 h1 h2
    go_wp2_with fail
    go_end0
    rw [HR.out]
    exact ⟨rfl, HK2.out, HC2.out⟩
set_option maxHeartbeats 4000000 in
set_option maxRecDepth 100000 in
theorem tell_c (HE : Hid (Env E F.tb wT)) (HF : Hid (Fit E F wT)) (HC : Hid (Ck E Z wT c F N s kn st w)) (p o : Int) (a : Nat) (q : Int) (ha : a ≤ 4294967296) :
    Calls Tryz.prog 159 #[.pointer (some ⟨c, 0, none⟩), .agg #[.int .i64 p, .int .i64 o, .int .i64 a, .int .i64 q]] w (CkOut E Z wT c F N (s.tell E o a) kn st w (.returned (.tuple #[]))) := by
  have hb0 : Below w.heap.size w (w.alloc (.cells #[.int .i64 p, .int .i64 o, .int .i64 a, .int .i64 q] 187)) := (Below.refl _ _).alloc (Nat.le_refl _) _
  have hz0 := heap_alloc_new w (.cells #[.int .i64 p, .int .i64 o, .int .i64 a, .int .i64 q] 187)
  have HB0 := lhid hb0
  have HZ0 := lhid hz0
  have HK0 := lhid (HC.out.below hb0)
  have HC0 := lhid (Ch.of (X := Z) hb0)
  have b1 : (w.alloc (.cells #[.int .i64 p, .int .i64 o, .int .i64 a, .int .i64 q] 187)).cell? ⟨w.heap.size, 1, none⟩ = some (.int .i64 o) := heap_cell hz0 rfl
  have b2 : (w.alloc (.cells #[.int .i64 p, .int .i64 o, .int .i64 a, .int .i64 q] 187)).cell? ⟨w.heap.size, 2, none⟩ = some (.int .i64 a) := heap_cell hz0 rfl
  clear hb0 hz0
  have hT : s.tell E o a = if o = 0 then s else if o = 1 then s.push E [78] else if o = 9 ∨ o = 10 then s.push E [74] else if o = 19 then s.tellC E a else s.push E [73] := rfl
  have HT := lhid hT
  clear hT
  go_enter Tryz.func159, Tryz.ntmps159
  go_upto_region 1 with fail
  generalize w.alloc (.cells #[.int .i64 p, .int .i64 o, .int .i64 a, .int .i64 q] 187) = w0 at *
  by_cases h0 : o = 0
  · have HR : Hid (s.tell E o a = s) := lhid (by rw [HT.out, if_pos h0])
    have d0 : (o == 0) = true := by rw [h0]; rfl
    clear h0
    go_wp2_with fail
    go_end0
    rw [HR.out]
    exact ⟨rfl, HK0.out, HC0.out⟩
  by_cases h1 : o = 1
  · have HR : Hid (s.tell E o a = s.push E [78]) := lhid (by rw [HT.out, if_neg h0, if_pos h1])
    have d0 := ne_beq h0
    have d1 : (o == 1) = true := by rw [h1]; rfl
    clear h0 h1
    go_wp2_with fail
    with_reducible refine (push1_c HE HF HK0 tN (by decide)).mono ?_
    rintro e w1 ⟨rfl, hk, hc⟩
    have HK1 := lhid hk
    have HC1 := lhid (HC0.out.tr hc)
    clear hk hc
    go_wp2_with fail
    go_end0
    rw [HR.out]
    exact ⟨rfl, HK1.out, HC1.out⟩
  by_cases h2 : o = 9
  · have HR : Hid (s.tell E o a = s.push E [74]) := lhid (by rw [HT.out, if_neg h0, if_neg h1, if_pos (.inl h2)])
    have d0 := ne_beq h0
    have d1 := ne_beq h1
    have d2 : (o == 9) = true := by rw [h2]; rfl
    clear h0 h1 h2
    go_wp2_with fail
    with_reducible refine (push1_c HE HF HK0 tJ (by decide)).mono ?_
    rintro e w1 ⟨rfl, hk, hc⟩
    have HK1 := lhid hk
    have HC1 := lhid (HC0.out.tr hc)
    clear hk hc
    go_wp2_with fail
    go_end0
    rw [HR.out]
    exact ⟨rfl, HK1.out, HC1.out⟩
  by_cases h3 : o = 10
  · have HR : Hid (s.tell E o a = s.push E [74]) := lhid (by rw [HT.out, if_neg h0, if_neg h1, if_pos (.inr h3)])
    have d0 := ne_beq h0
    have d1 := ne_beq h1
    have d2 := ne_beq h2
    have d3 : (o == 10) = true := by rw [h3]; rfl
    clear h0 h1 h2 h3
    go_wp2_with fail
    with_reducible refine (push1_c HE HF HK0 tJ (by decide)).mono ?_
    rintro e w1 ⟨rfl, hk, hc⟩
    have HK1 := lhid hk
    have HC1 := lhid (HC0.out.tr hc)
    clear hk hc
    go_wp2_with fail
    go_end0
    rw [HR.out]
    exact ⟨rfl, HK1.out, HC1.out⟩
  by_cases h4 : o = 19
  · have HR : Hid (s.tell E o a = s.tellC E a) := lhid (by rw [HT.out, if_neg h0, if_neg h1, if_neg (not_or.2 ⟨h2, h3⟩), if_pos h4])
    have d0 := ne_beq h0
    have d1 := ne_beq h1
    have d2 := ne_beq h2
    have d3 := ne_beq h3
    have d4 : (o == 19) = true := by rw [h4]; rfl
    clear h0 h1 h2 h3 h4
    go_wp2_with fail
    with_reducible refine (tellConstant_c HE HF HK0 a ha).mono ?_
    rintro e w1 ⟨rfl, hk, hc⟩
    have HK1 := lhid hk
    have HC1 := lhid (HC0.out.tr hc)
    clear hk hc
    go_wp2_with fail
    go_end0
    rw [HR.out]
    exact ⟨rfl, HK1.out, HC1.out⟩
  · have HR : Hid (s.tell E o a = s.push E [73]) := lhid (by rw [HT.out, if_neg h0, if_neg h1, if_neg (not_or.2 ⟨h2, h3⟩), if_neg h4])
    have d0 := ne_beq h0
    have d1 := ne_beq h1
    have d2 := ne_beq h2
    have d3 := ne_beq h3
    have d4 := ne_beq h4
    clear h0 h1 h2 h3 h4
    go_wp2_with fail
    with_reducible refine (push1_c HE HF HK0 tI (by decide)).mono ?_
    rintro e w1 ⟨rfl, hk, hc⟩
    have HK1 := lhid hk
    have HC1 := lhid (HC0.out.tr hc)
    clear hk hc
    go_wp2_with fail
    go_end0
    rw [HR.out]
    exact ⟨rfl, HK1.out, HC1.out⟩
theorem Ck.smallO (h : Ck E Z wT c F N s kn st w) (n : Nat) : (s.local n).1.length ≤ ML := by
  unfold Cs.local
  dsimp only
  split
  · rw [(refuse_cases s _ 61).1]
    show (s.loc.getD n []).length ≤ ML
    by_cases hn : n < s.loc.length
    · simp only [List.getD, List.getElem?_eq_getElem hn, Option.getD_some]
      exact h.smallL _ (List.getElem_mem _)
    · have h2 : s.loc[n]? = none := List.getElem?_eq_none (by omega)
      simp only [List.getD, h2, Option.getD_none]
      exact Nat.zero_le _
  · exact Nat.zero_le _
set_option maxHeartbeats 4000000 in
set_option maxRecDepth 100000 in
theorem load_c (HE : Hid (Env E F.tb wT)) (HF : Hid (Fit E F wT)) (HC : Hid (Ck E Z wT c F N s kn st w)) (p o : Int) (a : Nat) (q : Int) (ha : a ≤ 4294967296) :
    Calls Tryz.prog 160 #[.pointer (some ⟨c, 0, none⟩), .agg #[.int .i64 p, .int .i64 o, .int .i64 a, .int .i64 q]] w (CkOut E Z wT c F N (s.load E o a) kn st w (.returned (.tuple #[]))) := by
  have hb0 : Below w.heap.size w (w.alloc (.cells #[.int .i64 p, .int .i64 o, .int .i64 a, .int .i64 q] 187)) := (Below.refl _ _).alloc (Nat.le_refl _) _
  have hz0 := heap_alloc_new w (.cells #[.int .i64 p, .int .i64 o, .int .i64 a, .int .i64 q] 187)
  have HB0 := lhid hb0
  have HZ0 := lhid hz0
  have HK0 := lhid (HC.out.below hb0)
  have HC0 := lhid (Ch.of (X := Z) hb0)
  have b1 : (w.alloc (.cells #[.int .i64 p, .int .i64 o, .int .i64 a, .int .i64 q] 187)).cell? ⟨w.heap.size, 1, none⟩ = some (.int .i64 o) := heap_cell hz0 rfl
  have b2 : (w.alloc (.cells #[.int .i64 p, .int .i64 o, .int .i64 a, .int .i64 q] 187)).cell? ⟨w.heap.size, 2, none⟩ = some (.int .i64 a) := heap_cell hz0 rfl
  clear hb0 hz0
  have hT : s.load E o a = ((s.local a).2.refuse (E.kind (s.local a).1 != if o = 21 then 1 else if o = 22 then 2 else 3) 62).push E (s.local a).1 := rfl
  have HT := lhid hT
  clear hT
  go_enter Tryz.func160, Tryz.ntmps160
  by_cases h0 : o = 21
  · have HR : Hid (s.load E o a = ((s.local a).2.refuse (E.kind (s.local a).1 != 1) 62).push E (s.local a).1) := lhid (by rw [HT.out, if_pos h0])
    have d0 : (o == 21) = true := by rw [h0]; rfl
    clear h0
    have hsl := HK0.out.smallO a
    go_wp2_with fail
    with_reducible refine (local_c HK0 a ha).mono ?_
    rintro e w1 ⟨rfl, hk, hc⟩
    have HK1 := lhid hk
    have HC1 := lhid (HC0.out.tr hc)
    clear hk hc
    go_wp2_with fail
    with_reducible refine (HE.out.kind _ _).mono ?_
    rintro e w9 ⟨rfl, rfl⟩
    go_wp2_with fail
    with_reducible refine (refuse_c HK1 _ 62).mono ?_
    rintro e w2 ⟨rfl, hk, hc⟩
    have HK2 := lhid hk
    have HC2 := lhid (HC1.out.tr hc)
    clear hk hc
    go_wp2_with fail
    with_reducible refine (push1_c HE HF HK2 (rfl : (tx (s.local a).1) = tx (s.local a).1) hsl).mono ?_
    rintro e w3 ⟨rfl, hk, hc⟩
    have HK3 := lhid hk
    have HC3 := lhid (HC2.out.tr hc)
    clear hk hc
    go_wp2_with fail
    go_end0
    rw [HR.out]
    exact ⟨rfl, HK3.out, HC3.out⟩
  by_cases h1 : o = 22
  · have HR : Hid (s.load E o a = ((s.local a).2.refuse (E.kind (s.local a).1 != 2) 62).push E (s.local a).1) := lhid (by rw [HT.out, if_neg h0, if_pos h1])
    have d0 := ne_beq h0
    have d1 : (o == 22) = true := by rw [h1]; rfl
    clear h0 h1
    have hsl := HK0.out.smallO a
    go_wp2_with fail
    with_reducible refine (local_c HK0 a ha).mono ?_
    rintro e w1 ⟨rfl, hk, hc⟩
    have HK1 := lhid hk
    have HC1 := lhid (HC0.out.tr hc)
    clear hk hc
    go_wp2_with fail
    with_reducible refine (HE.out.kind _ _).mono ?_
    rintro e w9 ⟨rfl, rfl⟩
    go_wp2_with fail
    with_reducible refine (refuse_c HK1 _ 62).mono ?_
    rintro e w2 ⟨rfl, hk, hc⟩
    have HK2 := lhid hk
    have HC2 := lhid (HC1.out.tr hc)
    clear hk hc
    go_wp2_with fail
    with_reducible refine (push1_c HE HF HK2 (rfl : (tx (s.local a).1) = tx (s.local a).1) hsl).mono ?_
    rintro e w3 ⟨rfl, hk, hc⟩
    have HK3 := lhid hk
    have HC3 := lhid (HC2.out.tr hc)
    clear hk hc
    go_wp2_with fail
    go_end0
    rw [HR.out]
    exact ⟨rfl, HK3.out, HC3.out⟩
  · have HR : Hid (s.load E o a = ((s.local a).2.refuse (E.kind (s.local a).1 != 3) 62).push E (s.local a).1) := lhid (by rw [HT.out, if_neg h0, if_neg h1])
    have d0 := ne_beq h0
    have d1 := ne_beq h1
    clear h0 h1
    have hsl := HK0.out.smallO a
    go_wp2_with fail
    with_reducible refine (local_c HK0 a ha).mono ?_
    rintro e w1 ⟨rfl, hk, hc⟩
    have HK1 := lhid hk
    have HC1 := lhid (HC0.out.tr hc)
    clear hk hc
    go_wp2_with fail
    with_reducible refine (HE.out.kind _ _).mono ?_
    rintro e w9 ⟨rfl, rfl⟩
    go_wp2_with fail
    with_reducible refine (refuse_c HK1 _ 62).mono ?_
    rintro e w2 ⟨rfl, hk, hc⟩
    have HK2 := lhid hk
    have HC2 := lhid (HC1.out.tr hc)
    clear hk hc
    go_wp2_with fail
    with_reducible refine (push1_c HE HF HK2 (rfl : (tx (s.local a).1) = tx (s.local a).1) hsl).mono ?_
    rintro e w3 ⟨rfl, hk, hc⟩
    have HK3 := lhid hk
    have HC3 := lhid (HC2.out.tr hc)
    clear hk hc
    go_wp2_with fail
    go_end0
    rw [HR.out]
    exact ⟨rfl, HK3.out, HC3.out⟩
end
end Go.Proofs.YtpdnonlelocfbaaGreatDoor
/- Package check: store; things: made, measured, thrown, told by their types. -/
namespace Go.Proofs.YtpdnonlelocfbaaGreatDoor
open Go.RowKit Go Go.Maps
set_option linter.unusedVariables false
set_option maxHeartbeats 400000 in
theorem isStatic_c (f : Int) (w : World) : Calls Tryz.prog 98 #[.int .i64 f] w fun e w' => e = .returned (.bool (bStat f)) ∧ w = w' := by
  obtain ⟨b, hb⟩ : ∃ b, (bits .and .i64 f 8 != 0) = b := ⟨_, rfl⟩
  have HB : Hid (bStat f = b) := lhid (by rw [← flag_stat, hb])
  go_enter Tryz.func98, Tryz.ntmps98
  go_wp2_with fail
  go_ret
  exact ⟨by rw [HB.out]; rfl, rfl⟩
theorem numbersOf_c (a : Int) (w : World) : Calls Tryz.prog 223 #[.int .i64 a] w fun e w' => e = .returned (.string (tx (if a = 11 then [91, 74] else [91, 73]))) ∧ w = w' := by
  by_cases h : a = 11
  · have d : (a == 11) = true := by rw [h]; rfl
    rw [if_pos h]
    clear h
    go_enter Tryz.func223, Tryz.ntmps223
    go_wp2_with fail
    go_ret
    exact ⟨rfl, rfl⟩
  · have d := ne_beq h
    rw [if_neg h]
    clear h
    go_enter Tryz.func223, Tryz.ntmps223
    go_wp2_with fail
    go_ret
    exact ⟨rfl, rfl⟩
section
variable {E : Chk} {Z : Nat → Prop} {wT : World} {c : Nat} {F : Fx} {N : Nat} {s : Cs} {kn : Bool} {st : Value} {w : World}
set_option maxHeartbeats 400000 in
theorem ownType_c (HE : Hid (Env E F.tb wT)) (HF : Hid (Fit E F wT)) (HC : Hid (Ck E Z wT c F N s kn st w)) : Calls Tryz.prog 99 #[.pointer (some ⟨c, 0, none⟩)] w fun e w' => e = .returned (.string (tx E.own)) ∧ w = w' := by
  have c2 : w.cell? ⟨c, 2, none⟩ = some (.string (tx F.cn)) := by
    obtain ⟨vl, vs, hc, _⟩ := HC.out.it
    exact heap_cell hc rfl
  go_enter Tryz.func99, Tryz.ntmps99
  go_wp2_with fail
  with_reducible refine (HE.out.of F.cn w HF.out.cn).mono ?_
  rintro e w9 ⟨rfl, rfl⟩
  go_wp2_with fail
  go_ret
  exact ⟨by rw [← HF.out.own]; rfl, rfl⟩
theorem know_b (HE : Hid (Env E F.tb wT)) (HC : Hid (Ck E Z wT c F N s kn st w)) {b : ByteArray} {x : Bs} (hb : b = tx x) (hx : x.length ≤ ML) :
    Calls Tryz.prog 219 #[.pointer (some ⟨c, 0, none⟩), .string b] w (CkOut E Z wT c F N (s.know E x) kn st w (.returned (.tuple #[]))) := by
  subst hb
  exact know_c HE HC x hx
theorem arr_tx (x : Bs) : (⟨#[91]⟩ : ByteArray) ++ tx x = tx (91 :: x) := by
  apply tx_eq
  simp [tx]
theorem local_in {n : Nat} (h : (s.local n).2.flt = 0) : n < s.loc.length ∧ (s.local n).2.loc = s.loc ∧ (s.local n).2.stk = s.stk := by
  unfold Cs.local at h ⊢
  dsimp only at h ⊢
  have hr := refuse_cases s (decide (s.loc.length ≤ n)) 61
  split at h
  · rename_i h0
    have := (refuse_none (by decide) h0).2
    rw [decide_eq_false_iff_not] at this
    rw [if_pos h0]
    exact ⟨by omega, hr.1, hr.2⟩
  · rename_i h0; exact absurd h h0
theorem lnV_set (l : List Bs) (a : Nat) (t : Bs) : lnV (l.set a t) = (lnV l).set a (.string (tx t)) := by simp [lnV, List.map_set]
/-- A local is written. -/
theorem Ck.setLocal (h : Ck E Z wT c F N s kn st w) {a : Nat} (ha : a < s.loc.length) {t : Bs} (ht : t.length ≤ ML) : ∃ g cap u, w.cell? ⟨c, 20, none⟩ = some (.slice (some ⟨g, 0, none⟩) s.loc.length cap) ∧ w.cell? ⟨g, a, none⟩ = some u ∧ w.frozen? ⟨g, a, none⟩ = false ∧
    Ck E Z wT c F N { s with loc := s.loc.set a t } kn st (w.setCell ⟨g, a, none⟩ (.string (tx t))) ∧ Ch Z w (w.setCell ⟨g, a, none⟩ (.string (tx t))) := by
  obtain ⟨vl, vs, hc, hl, hs, hd⟩ := h.it
  obtain ⟨A, cap, rfl⟩ := own_shape hl.row
  obtain ⟨g, rfl, hcell⟩ := hl.cell (List.getElem?_eq_getElem ha)
  have hr := hl.row
  obtain ⟨hst, _⟩ := hr.stored a (.string (tx t))
  have hch : Ch Z w (w.setCell ⟨g, a, none⟩ (.string (tx t))) := (Ch.refl Z w).set (p := ⟨g, a, none⟩) (fun _ => hl.zone g rfl) _
  have hgc : g ≠ c := fun e => ow_ne hl hc (by rw [← e]; rfl)
  have hgb : F.cb ≠ g := fun e => ask_no h.ask hl (by rw [e]; rfl)
  refine ⟨g, cap, _, heap_cell hc rfl, hcell, hr.frozenAt a, ⟨h.to hch, h.low, fun k hk => h.new k (Nat.le_trans hch.size hk), h.cz, h.bz, ⟨_, vs, (Below.heap_setCell _ _ _ _ (fun e => hgc e.symm)).trans hc, ⟨?_, hl.zone, ?_⟩, ow_far hs (hd g rfl) _, hd⟩, h.ask.of (Below.heap_setCell _ _ _ _ hgb)⟩, hch⟩
  · show World.ownsRow _ _ _ _ _ (s.loc.set a t).length _
    rw [lnV_set, List.length_set]
    exact hst
  · intro u hu
    rcases List.mem_or_eq_of_mem_set hu with hu | rfl
    · exact hl.small u hu
    · exact ht
set_option maxHeartbeats 4000000 in
set_option maxRecDepth 100000 in
theorem made_c (HE : Hid (Env E F.tb wT)) (HF : Hid (Fit E F wT)) (HC : Hid (Ck E Z wT c F N s kn st w)) (n : Nat) (hn : n ≤ 4294967296) (hN : N ≤ 8589934592) :
    Calls Tryz.prog 222 #[.pointer (some ⟨c, 0, none⟩), .int .i64 n] w (CkOut E Z wT c F (N + 1) ((s.pooled E n [7]).2.refuse ((E.cls (s.pooled E n [7]).1.text).isNone || bIface ((E.cls (s.pooled E n [7]).1.text).getD 0) || bAbs ((E.cls (s.pooled E n [7]).1.text).getD 0) || decide ((s.pooled E n [7]).1.text = [83, 116, 114, 105, 110, 103] ∨ (s.pooled E n [7]).1.text = [83, 121, 115])) 50) kn st w (.returned (.string (tx (E.of (s.pooled E n [7]).1.text))))) := by
  obtain ⟨x, hx⟩ : ∃ x, (s.pooled E n [7]).1 = x := ⟨_, rfl⟩
  have hsm := (pooled_small HE.out s n [7]).1
  rw [hx] at hsm ⊢
  have HX := lhid hx
  have HSM := lhid hsm
  have hT : (s.pooled E n [7]).2.refuse ((E.cls x.text).isNone || bIface ((E.cls x.text).getD 0) || bAbs ((E.cls x.text).getD 0) || decide (x.text = [83, 116, 114, 105, 110, 103] ∨ x.text = [83, 121, 115])) 50 = (s.pooled E n [7]).2.refuse ((E.cls x.text).isNone || bIface ((E.cls x.text).getD 0) || bAbs ((E.cls x.text).getD 0) || decide (x.text = [83, 116, 114, 105, 110, 103] ∨ x.text = [83, 121, 115])) 50 := rfl
  obtain ⟨th, hth⟩ : ∃ b, (E.cls x.text).isSome = b := ⟨_, rfl⟩
  obtain ⟨fl, hfl⟩ : ∃ b, (E.cls x.text).getD 0 = b := ⟨_, rfl⟩
  have hnone : (E.cls x.text).isNone = !th := by rw [← hth]; cases E.cls x.text <;> rfl
  rw [hnone, hfl]
  obtain ⟨q1, hq1⟩ : ∃ b, decide (x.text = [83, 116, 114, 105, 110, 103]) = b := ⟨_, rfl⟩
  obtain ⟨q2, hq2⟩ : ∃ b, decide (x.text = [83, 121, 115]) = b := ⟨_, rfl⟩
  have hq : decide (x.text = [83, 116, 114, 105, 110, 103] ∨ x.text = [83, 121, 115]) = (q1 || q2) := by rw [← hq1, ← hq2, Bool.eq_iff_iff]; simp
  have e1 : ((tx x.text).toList == [83, 116, 114, 105, 110, 103]) = q1 := by rw [tx_toL, ← hq1, Bool.eq_iff_iff]; simp
  have e2 : ((tx x.text).toList == [83, 121, 115]) = q2 := by rw [tx_toL, ← hq2, Bool.eq_iff_iff]; simp
  obtain ⟨q3, hq3⟩ : ∃ b, (bits .and .i64 fl 1536 != 0) = b := ⟨_, rfl⟩
  have hq4 : (!th || bIface fl || bAbs fl || (q1 || q2)) = (!th || q3 || q1 || q2) := by rw [← hq3, flag_both]; cases th <;> cases bIface fl <;> cases bAbs fl <;> cases q1 <;> cases q2 <;> rfl
  rw [hq, hq4]
  have HTH : Hid ((E.cls x.text).isSome = th ∧ (E.cls x.text).getD 0 = fl) := lhid ⟨hth, hfl⟩
  clear hT hth hfl hnone hq1 hq2 hq hq4 hx hsm
  go_enter Tryz.func222, Tryz.ntmps222
  go_wp2_with fail
  with_reducible refine (pooled1_c HE HF HC n hn 7).mono ?_
  rintro e w1 ⟨rfl, hk, hc⟩
  rw [HX.out]
  have hrun : ∀ (W : World), (Instr.field 213 (coV x) 2).run Tryz.prog W = .ok (.string (tx x.text)) W := fun _ => by kernel_rfl
  have HK1 := lhid hk
  have HC1 := lhid hc
  clear hk hc
  go_wp2_with fail
  with_reducible refine (classFlags_c HE HK1 x.text (Nat.le_trans HSM.out (by decide)) hN).mono ?_
  rintro e w2 ⟨rfl, hk, hc⟩
  rw [HTH.out.1, HTH.out.2]
  have HK2 := lhid hk
  have HC2 := lhid (HC1.out.tr hc)
  clear hk hc
  cases th <;> cases q3 <;> cases q1 <;> cases q2
  all_goals go_wp2_with fail
  all_goals with_reducible refine (refuse_c HK2 _ 50).mono ?_
  all_goals
    rintro e w3 ⟨rfl, hk, hc⟩
    have HK3 := lhid hk
    have HC3 := lhid (HC2.out.tr hc)
    clear hk hc
  all_goals go_wp2_with fail
  all_goals with_reducible refine (HE.out.of _ _ (Nat.le_trans HSM.out (by decide))).mono ?_
  all_goals rintro e w9 ⟨rfl, rfl⟩
  all_goals go_wp2_with fail
  all_goals go_ret
  all_goals exact ⟨rfl, HK3.out, HC3.out⟩
set_option maxHeartbeats 4000000 in
set_option maxRecDepth 100000 in
theorem store_c (HE : Hid (Env E F.tb wT)) (HF : Hid (Fit E F wT)) (HC : Hid (Ck E Z wT c F N s kn st w)) (p o : Int) (a : Nat) (q : Int) (ha : a ≤ 4294967296) :
    Calls Tryz.prog 162 #[.pointer (some ⟨c, 0, none⟩), .agg #[.int .i64 p, .int .i64 o, .int .i64 a, .int .i64 q]] w (CkOut E Z wT c F N (s.store E o a) kn st w (.returned (.tuple #[]))) := by
  have hb0 : Below w.heap.size w (w.alloc (.cells #[.int .i64 p, .int .i64 o, .int .i64 a, .int .i64 q] 187)) := (Below.refl _ _).alloc (Nat.le_refl _) _
  have hz0 := heap_alloc_new w (.cells #[.int .i64 p, .int .i64 o, .int .i64 a, .int .i64 q] 187)
  have HB0 := lhid hb0
  have HZ0 := lhid hz0
  have HK0 := lhid (HC.out.box hb0 (Nat.le_refl _) (by simp))
  have HC0 := lhid (Ch.refl (fun k => Z k ∧ k ≠ w.heap.size) (w.alloc (.cells #[.int .i64 p, .int .i64 o, .int .i64 a, .int .i64 q] 187)))
  have b1 : (w.alloc (.cells #[.int .i64 p, .int .i64 o, .int .i64 a, .int .i64 q] 187)).cell? ⟨w.heap.size, 1, none⟩ = some (.int .i64 o) := heap_cell hz0 rfl
  have b2 : (w.alloc (.cells #[.int .i64 p, .int .i64 o, .int .i64 a, .int .i64 q] 187)).cell? ⟨w.heap.size, 2, none⟩ = some (.int .i64 a) := heap_cell hz0 rfl
  clear hb0 hz0
  have hT : s.store E o a = if o = 54 then (s.pop E [73]).setLoc a [73] else if o = 55 then (s.pop E [74]).setLoc a [74] else if o = 58 then (s.popRef E).2.setLoc a (s.popRef E).1 else s.setLoc a [73] := rfl
  have HT := lhid hT
  clear hT
  go_enter Tryz.func162, Tryz.ntmps162
  go_upto_region 1 with fail
  generalize w.alloc (.cells #[.int .i64 p, .int .i64 o, .int .i64 a, .int .i64 q] 187) = w0 at *
  by_cases h0 : o = 54
  · have HR : Hid (s.store E o a = (s.pop E [73]).setLoc a [73]) := lhid (by rw [HT.out, if_pos h0])
    have d0 : (o == 54) = true := by rw [h0]; rfl
    clear h0
    go_wp2_with fail
    with_reducible refine (pop_b HE HK0 tI (by decide)).mono ?_
    rintro e w1 ⟨rfl, hk, hc⟩
    have HK1 := lhid hk
    have HC1 := lhid (HC0.out.tr hc)
    clear hk hc
    have hb1 := box_keep HC1.out HZ0.out
    have g2 := heap_cell (i := 2) hb1 rfl
    clear hb1
    go_wp2_with fail
    with_reducible refine (local_c HK1 a ha).mono ?_
    rintro e w2 ⟨rfl, hk, hc⟩
    have HK2 := lhid hk
    have HC2 := lhid (HC1.out.tr hc)
    clear hk hc
    have hbb := box_keep HC2.out HZ0.out
    have k2 := heap_cell (i := 2) hbb rfl
    have c23 := HK2.out.flt
    by_cases hz : ((s.pop E [73]).local a).2.flt = 0
    · obtain ⟨hlt, hll, hss⟩ := local_in hz
      obtain ⟨g, cap, u, l20, lg, lz, hkF, hcF⟩ := HK2.out.setLocal (a := a) (by rw [hll]; exact hlt) (t := [73]) (by decide)
      have HR2 : Hid ((s.pop E [73]).setLoc a [73] = { ((s.pop E [73]).local a).2 with loc := ((s.pop E [73]).local a).2.loc.set a [73] }) := lhid (if_pos hz)
      have hlt2 : (a : Int) < ((s.pop E [73]).local a).2.loc.length := by rw [hll]; omega
      have HKF := lhid hkF
      have HCF := lhid (HC2.out.tr hcF)
      rw [hz] at c23
      clear hz hlt hll hss hkF hcF hbb
      go_wp2_with fail
      go_region
      go_wp2_with fail
      go_end0
      rw [HR.out, HR2.out]
      exact ckOut_box HC.out HB0.out HKF.out.drew HCF.out.drew rfl
    · have HR2 : Hid ((s.pop E [73]).setLoc a [73] = ((s.pop E [73]).local a).2) := lhid (if_neg hz)
      clear hbb
      go_wp2_with fail
      go_end0
      rw [HR.out, HR2.out]
      exact ckOut_box HC.out HB0.out HK2.out HC2.out rfl
  by_cases h1 : o = 55
  · have HR : Hid (s.store E o a = (s.pop E [74]).setLoc a [74]) := lhid (by rw [HT.out, if_neg h0, if_pos h1])
    have d0 := ne_beq h0
    have d1 : (o == 55) = true := by rw [h1]; rfl
    clear h0 h1
    go_wp2_with fail
    with_reducible refine (pop_b HE HK0 tJ (by decide)).mono ?_
    rintro e w1 ⟨rfl, hk, hc⟩
    have HK1 := lhid hk
    have HC1 := lhid (HC0.out.tr hc)
    clear hk hc
    have hb1 := box_keep HC1.out HZ0.out
    have g2 := heap_cell (i := 2) hb1 rfl
    clear hb1
    go_wp2_with fail
    with_reducible refine (local_c HK1 a ha).mono ?_
    rintro e w2 ⟨rfl, hk, hc⟩
    have HK2 := lhid hk
    have HC2 := lhid (HC1.out.tr hc)
    clear hk hc
    have hbb := box_keep HC2.out HZ0.out
    have k2 := heap_cell (i := 2) hbb rfl
    have c23 := HK2.out.flt
    by_cases hz : ((s.pop E [74]).local a).2.flt = 0
    · obtain ⟨hlt, hll, hss⟩ := local_in hz
      obtain ⟨g, cap, u, l20, lg, lz, hkF, hcF⟩ := HK2.out.setLocal (a := a) (by rw [hll]; exact hlt) (t := [74]) (by decide)
      have HR2 : Hid ((s.pop E [74]).setLoc a [74] = { ((s.pop E [74]).local a).2 with loc := ((s.pop E [74]).local a).2.loc.set a [74] }) := lhid (if_pos hz)
      have hlt2 : (a : Int) < ((s.pop E [74]).local a).2.loc.length := by rw [hll]; omega
      have HKF := lhid hkF
      have HCF := lhid (HC2.out.tr hcF)
      rw [hz] at c23
      clear hz hlt hll hss hkF hcF hbb
      go_wp2_with fail
      go_region
      go_wp2_with fail
      go_end0
      rw [HR.out, HR2.out]
      exact ckOut_box HC.out HB0.out HKF.out.drew HCF.out.drew rfl
    · have HR2 : Hid ((s.pop E [74]).setLoc a [74] = ((s.pop E [74]).local a).2) := lhid (if_neg hz)
      clear hbb
      go_wp2_with fail
      go_end0
      rw [HR.out, HR2.out]
      exact ckOut_box HC.out HB0.out HK2.out HC2.out rfl
  by_cases h2 : o = 58
  · have HR : Hid (s.store E o a = (s.popRef E).2.setLoc a (s.popRef E).1) := lhid (by rw [HT.out, if_neg h0, if_neg h1, if_pos h2])
    have d0 := ne_beq h0
    have d1 := ne_beq h1
    have d2 : (o == 58) = true := by rw [h2]; rfl
    clear h0 h1 h2
    have hPT := HC.out.smallP (E := E)
    go_wp2_with fail
    with_reducible refine (popRef_c HE HK0).mono ?_
    rintro e w1 ⟨rfl, hk, hc⟩
    have HK1 := lhid hk
    have HC1 := lhid (HC0.out.tr hc)
    clear hk hc
    have hb1 := box_keep HC1.out HZ0.out
    have g2 := heap_cell (i := 2) hb1 rfl
    clear hb1
    go_wp2_with fail
    with_reducible refine (local_c HK1 a ha).mono ?_
    rintro e w2 ⟨rfl, hk, hc⟩
    have HK2 := lhid hk
    have HC2 := lhid (HC1.out.tr hc)
    clear hk hc
    have hbb := box_keep HC2.out HZ0.out
    have k2 := heap_cell (i := 2) hbb rfl
    have c23 := HK2.out.flt
    by_cases hz : (((s.popRef E).2).local a).2.flt = 0
    · obtain ⟨hlt, hll, hss⟩ := local_in hz
      obtain ⟨g, cap, u, l20, lg, lz, hkF, hcF⟩ := HK2.out.setLocal (a := a) (by rw [hll]; exact hlt) (t := (s.popRef E).1) hPT
      have HR2 : Hid (((s.popRef E).2).setLoc a (s.popRef E).1 = { (((s.popRef E).2).local a).2 with loc := (((s.popRef E).2).local a).2.loc.set a (s.popRef E).1 }) := lhid (if_pos hz)
      have hlt2 : (a : Int) < (((s.popRef E).2).local a).2.loc.length := by rw [hll]; omega
      have HKF := lhid hkF
      have HCF := lhid (HC2.out.tr hcF)
      rw [hz] at c23
      clear hz hlt hll hss hkF hcF hbb
      go_wp2_with fail
      go_region
      go_wp2_with fail
      go_end0
      rw [HR.out, HR2.out]
      exact ckOut_box HC.out HB0.out HKF.out.drew HCF.out.drew rfl
    · have HR2 : Hid (((s.popRef E).2).setLoc a (s.popRef E).1 = (((s.popRef E).2).local a).2) := lhid (if_neg hz)
      clear hbb
      go_wp2_with fail
      go_end0
      rw [HR.out, HR2.out]
      exact ckOut_box HC.out HB0.out HK2.out HC2.out rfl
  · have HR : Hid (s.store E o a = s.setLoc a [73]) := lhid (by rw [HT.out, if_neg h0, if_neg h1, if_neg h2])
    have d0 := ne_beq h0
    have d1 := ne_beq h1
    have d2 := ne_beq h2
    clear h0 h1 h2
    have hb0 := box_keep HC0.out HZ0.out
    have g2 := heap_cell (i := 2) hb0 rfl
    clear hb0
    go_wp2_with fail
    with_reducible refine (local_c HK0 a ha).mono ?_
    rintro e w1 ⟨rfl, hk, hc⟩
    have HK1 := lhid hk
    have HC1 := lhid (HC0.out.tr hc)
    clear hk hc
    have hbb := box_keep HC1.out HZ0.out
    have k2 := heap_cell (i := 2) hbb rfl
    have c23 := HK1.out.flt
    by_cases hz : ((s).local a).2.flt = 0
    · obtain ⟨hlt, hll, hss⟩ := local_in hz
      obtain ⟨g, cap, u, l20, lg, lz, hkF, hcF⟩ := HK1.out.setLocal (a := a) (by rw [hll]; exact hlt) (t := [73]) (by decide)
      have HR2 : Hid ((s).setLoc a [73] = { ((s).local a).2 with loc := ((s).local a).2.loc.set a [73] }) := lhid (if_pos hz)
      have hlt2 : (a : Int) < ((s).local a).2.loc.length := by rw [hll]; omega
      have HKF := lhid hkF
      have HCF := lhid (HC1.out.tr hcF)
      rw [hz] at c23
      clear hz hlt hll hss hkF hcF hbb
      go_wp2_with fail
      go_region
      go_wp2_with fail
      go_end0
      rw [HR.out, HR2.out]
      exact ckOut_box HC.out HB0.out HKF.out.drew HCF.out.drew rfl
    · have HR2 : Hid ((s).setLoc a [73] = ((s).local a).2) := lhid (if_neg hz)
      clear hbb
      go_wp2_with fail
      go_end0
      rw [HR.out, HR2.out]
      exact ckOut_box HC.out HB0.out HK1.out HC1.out rfl
end
end Go.Proofs.YtpdnonlelocfbaaGreatDoor
/- Package check: thing. -/
namespace Go.Proofs.YtpdnonlelocfbaaGreatDoor
open Go.RowKit Go Go.Maps
set_option linter.unusedVariables false
section
variable {E : Chk} {Z : Nat → Prop} {wT : World} {c : Nat} {F : Fx} {N : Nat} {s : Cs} {kn : Bool} {st : Value} {w : World}
theorem of_small (HE : Env E F.tb wT) (s : Cs) (n : Nat) (ks : List Int) : (E.of (s.pooled E n ks).1.text).length + 1 ≤ ML := by
  have h1 := (pooled_small HE s n ks).1
  have h2 := HE.l_of (s.pooled E n ks).1.text
  have h3 : (4294967296 : Nat) + 3 ≤ ML := by decide
  omega
theorem txb (x : Bs) : tx x = tx x := rfl
set_option maxHeartbeats 4000000 in
set_option maxRecDepth 100000 in
theorem thing_c (HE : Hid (Env E F.tb wT)) (HF : Hid (Fit E F wT)) (HC : Hid (Ck E Z wT c F N s kn st w)) (p o : Int) (a : Nat) (q : Int) (ha : a ≤ 4294967296) (hN : N ≤ 8589934592) :
    Calls Tryz.prog 172 #[.pointer (some ⟨c, 0, none⟩), .agg #[.int .i64 p, .int .i64 o, .int .i64 a, .int .i64 q]] w (CkOut E Z wT c F (N + 1) (s.thing E o a) kn st w (.returned (.tuple #[]))) := by
  have hb0 : Below w.heap.size w (w.alloc (.cells #[.int .i64 p, .int .i64 o, .int .i64 a, .int .i64 q] 187)) := (Below.refl _ _).alloc (Nat.le_refl _) _
  have hz0 := heap_alloc_new w (.cells #[.int .i64 p, .int .i64 o, .int .i64 a, .int .i64 q] 187)
  have HB0 := lhid hb0
  have HZ0 := lhid hz0
  have HK0 := lhid (HC.out.box hb0 (Nat.le_refl _) (by simp))
  have HC0 := lhid (Ch.refl (fun k => Z k ∧ k ≠ w.heap.size) (w.alloc (.cells #[.int .i64 p, .int .i64 o, .int .i64 a, .int .i64 q] 187)))
  have b1 : (w.alloc (.cells #[.int .i64 p, .int .i64 o, .int .i64 a, .int .i64 q] 187)).cell? ⟨w.heap.size, 1, none⟩ = some (.int .i64 o) := heap_cell hz0 rfl
  have b2 : (w.alloc (.cells #[.int .i64 p, .int .i64 o, .int .i64 a, .int .i64 q] 187)).cell? ⟨w.heap.size, 2, none⟩ = some (.int .i64 a) := heap_cell hz0 rfl
  clear hb0 hz0
  have hN' : N ≤ N + 1 := Nat.le_succ N
  go_enter Tryz.func172, Tryz.ntmps172
  go_upto_region 1 with fail
  generalize w.alloc (.cells #[.int .i64 p, .int .i64 o, .int .i64 a, .int .i64 q] 187) = w0 at *
  by_cases h0 : o = 187
  · have HR : Hid (s.thing E o a = s.made E a) := lhid (by unfold Cs.thing; rw [if_pos h0])
    have d0 : (o == 187) = true := by rw [h0]; rfl
    clear h0
    have hol := Nat.le_of_succ_le (of_small HE.out s a [7])
    go_wp2_with fail
    with_reducible refine (made_c HE HF HK0 a ha hN).mono ?_
    rintro e w1 ⟨rfl, hk, hc⟩
    have HK1 := lhid hk
    have HC1 := lhid (HC0.out.tr hc)
    clear hk hc
    go_wp2_with fail
    with_reducible refine (push1_c HE HF HK1 (rfl : (tx (E.of (s.pooled E a [7]).1.text)) = tx (E.of (s.pooled E a [7]).1.text)) hol).mono ?_
    rintro e w2 ⟨rfl, hk, hc⟩
    have HK2 := lhid hk
    have HC2 := lhid (HC1.out.tr hc)
    clear hk hc
    go_wp2_with fail
    go_end0
    rw [HR.out]
    exact ckOut_box HC.out HB0.out HK2.out HC2.out rfl
  by_cases h1 : o = 188
  · have HR : Hid (s.thing E o a = ((s.refuse (decide (a ≠ 10 ∧ a ≠ 11)) 62).pop E [73]).push E (if a = 11 then [91, 74] else [91, 73])) := lhid (by unfold Cs.thing; rw [if_neg h0, if_pos h1]; rfl)
    have d0 := ne_beq h0
    have d1 : (o == 188) = true := by rw [h1]; rfl
    clear h0 h1

    by_cases ha10 : a = 10
    · subst ha10
      go_wp2_with fail
      with_reducible refine (refuse_b HK0 (b' := decide (10 ≠ 10 ∧ 10 ≠ 11)) (by decide) 62).mono ?_
      rintro e w1 ⟨rfl, hk, hc⟩
      have HK1 := lhid hk
      have HC1 := lhid (HC0.out.tr hc)
      clear hk hc
      go_wp2_with fail
      with_reducible refine (pop_b HE HK1 tI (by decide)).mono ?_
      rintro e w2 ⟨rfl, hk, hc⟩
      have HK2 := lhid hk
      have HC2 := lhid (HC1.out.tr hc)
      clear hk hc
      have hbb := box_keep HC2.out HZ0.out
      have k2 := heap_cell (i := 2) hbb rfl
      clear hbb
      go_wp2_with fail
      with_reducible refine (numbersOf_c 10 _).mono ?_
      rintro e w9 ⟨rfl, rfl⟩
      rw [if_neg (by decide)]
      go_wp2_with fail
      with_reducible refine (push1_c HE HF HK2 (txb [91, 73]) (by decide)).mono ?_
      rintro e w3 ⟨rfl, hk, hc⟩
      have HK3 := lhid hk
      have HC3 := lhid (HC2.out.tr hc)
      clear hk hc
      go_wp2_with fail
      go_end0
      rw [HR.out]
      exact ckOut_box HC.out HB0.out (HK3.out.more hN') HC3.out rfl
    by_cases ha11 : a = 11
    · subst ha11
      go_wp2_with fail
      with_reducible refine (refuse_b HK0 (b' := decide (11 ≠ 10 ∧ 11 ≠ 11)) (by decide) 62).mono ?_
      rintro e w1 ⟨rfl, hk, hc⟩
      have HK1 := lhid hk
      have HC1 := lhid (HC0.out.tr hc)
      clear hk hc
      go_wp2_with fail
      with_reducible refine (pop_b HE HK1 tI (by decide)).mono ?_
      rintro e w2 ⟨rfl, hk, hc⟩
      have HK2 := lhid hk
      have HC2 := lhid (HC1.out.tr hc)
      clear hk hc
      have hbb := box_keep HC2.out HZ0.out
      have k2 := heap_cell (i := 2) hbb rfl
      clear hbb
      go_wp2_with fail
      with_reducible refine (numbersOf_c 11 _).mono ?_
      rintro e w9 ⟨rfl, rfl⟩
      rw [if_pos rfl]
      go_wp2_with fail
      with_reducible refine (push1_c HE HF HK2 (txb [91, 74]) (by decide)).mono ?_
      rintro e w3 ⟨rfl, hk, hc⟩
      have HK3 := lhid hk
      have HC3 := lhid (HC2.out.tr hc)
      clear hk hc
      go_wp2_with fail
      go_end0
      rw [HR.out]
      exact ckOut_box HC.out HB0.out (HK3.out.more hN') HC3.out rfl
    · have a10 : ((a : Int) != 10) = true := by rw [bne_iff_ne]; omega
      have a11 : ((a : Int) != 11) = true := by rw [bne_iff_ne]; omega
      have HA11 : Hid (¬ ((a : Nat) : Int) = 11 ∧ ¬ a = 11) := lhid ⟨by omega, ha11⟩
      have HAB : Hid (true = decide (a ≠ 10 ∧ a ≠ 11)) := lhid (by rw [eq_comm, decide_eq_true_iff]; exact ⟨ha10, ha11⟩)
      clear ha10 ha11
      go_wp2_with fail
      with_reducible refine (refuse_b HK0 (b' := decide (a ≠ 10 ∧ a ≠ 11)) HAB.out 62).mono ?_
      rintro e w1 ⟨rfl, hk, hc⟩
      have HK1 := lhid hk
      have HC1 := lhid (HC0.out.tr hc)
      clear hk hc
      go_wp2_with fail
      with_reducible refine (pop_b HE HK1 tI (by decide)).mono ?_
      rintro e w2 ⟨rfl, hk, hc⟩
      have HK2 := lhid hk
      have HC2 := lhid (HC1.out.tr hc)
      clear hk hc
      have hbb := box_keep HC2.out HZ0.out
      have k2 := heap_cell (i := 2) hbb rfl
      clear hbb
      go_wp2_with fail
      with_reducible refine (numbersOf_c a _).mono ?_
      rintro e w9 ⟨rfl, rfl⟩
      rw [if_neg HA11.out.1]
      go_wp2_with fail
      with_reducible refine (push1_c HE HF HK2 (txb [91, 73]) (by decide)).mono ?_
      rintro e w3 ⟨rfl, hk, hc⟩
      have HK3 := lhid hk
      have HC3 := lhid (HC2.out.tr hc)
      clear hk hc
      go_wp2_with fail
      go_end0
      rw [HR.out]
      rw [if_neg HA11.out.2]
      exact ckOut_box HC.out HB0.out (HK3.out.more hN') HC3.out rfl
  by_cases h2 : o = 189
  · have HR : Hid (s.thing E o a = (((s.pooled E a [7]).2.know E (91 :: E.of (s.pooled E a [7]).1.text)).pop E [73]).push E (91 :: E.of (s.pooled E a [7]).1.text)) := lhid (by unfold Cs.thing; rw [if_neg h0, if_neg h1, if_pos h2]; rfl)
    have d0 := ne_beq h0
    have d1 := ne_beq h1
    have d2 : (o == 189) = true := by rw [h2]; rfl
    clear h0 h1 h2
    have hol := of_small HE.out s a [7]
    have hlen : ¬ 9223372036854775807 < (⟨#[91]⟩ : ByteArray).size + (tx (E.of (s.pooled E a [7]).1.text)).size := by rw [tx_size]; have h1 : ML + 1 ≤ 9223372036854775807 := (by decide); have h2 : (⟨#[91]⟩ : ByteArray).size = 1 := rfl; omega
    have HOL : Hid ((91 :: E.of (s.pooled E a [7]).1.text).length ≤ ML) := lhid hol
    clear hol
    go_wp2_with fail
    with_reducible refine (pooledType_c HE HF HK0 a ha).mono ?_
    rintro e w1 ⟨rfl, hk, hc⟩
    have HK1 := lhid hk
    have HC1 := lhid (HC0.out.tr hc)
    clear hk hc
    go_wp2_with fail
    with_reducible refine (know_b HE HK1 (arr_tx (E.of (s.pooled E a [7]).1.text)) HOL.out).mono ?_
    rintro e w2 ⟨rfl, hk, hc⟩
    have HK2 := lhid hk
    have HC2 := lhid (HC1.out.tr hc)
    clear hk hc
    go_wp2_with fail
    with_reducible refine (pop_b HE HK2 tI (by decide)).mono ?_
    rintro e w3 ⟨rfl, hk, hc⟩
    have HK3 := lhid hk
    have HC3 := lhid (HC2.out.tr hc)
    clear hk hc
    go_wp2_with fail
    with_reducible refine (push1_c HE HF HK3 (arr_tx (E.of (s.pooled E a [7]).1.text)) HOL.out).mono ?_
    rintro e w4 ⟨rfl, hk, hc⟩
    have HK4 := lhid hk
    have HC4 := lhid (HC3.out.tr hc)
    clear hk hc
    go_wp2_with fail
    go_end0
    rw [HR.out]
    exact ckOut_box HC.out HB0.out (HK4.out.more hN') HC4.out rfl
  by_cases h3 : o = 190
  · have HR : Hid (s.thing E o a = ((s.popRef E).2.refuse (decide ((s.popRef E).1 ≠ [78] ∧ E.elem (s.popRef E).1 = [])) 62).push E [73]) := lhid (by unfold Cs.thing; rw [if_neg h0, if_neg h1, if_neg h2, if_pos h3]; rfl)
    have d0 := ne_beq h0
    have d1 := ne_beq h1
    have d2 := ne_beq h2
    have d3 : (o == 190) = true := by rw [h3]; rfl
    clear h0 h1 h2 h3
    go_wp2_with fail
    with_reducible refine (popRef_c HE HK0).mono ?_
    rintro e w1 ⟨rfl, hk, hc⟩
    have HK1 := lhid hk
    have HC1 := lhid (HC0.out.tr hc)
    clear hk hc
    obtain ⟨x, hx⟩ : ∃ x, (s.popRef E).1 = x := ⟨_, rfl⟩
    have HX := lhid hx
    rw [hx]
    rw [hx] at HR
    by_cases hN0 : x = [78]
    · have d20 : ((tx x).toList == [78]) = true := by rw [tx_toL, hN0]; rfl
      have HB9 : Hid (false = decide (x ≠ [78] ∧ E.elem x = [])) := lhid (by rw [eq_comm, decide_eq_false_iff_not]; exact fun h => h.1 hN0)
      clear hN0 hx
      go_wp2_with fail
      with_reducible refine (refuse_b HK1 (b' := decide (x ≠ [78] ∧ E.elem x = [])) HB9.out 62).mono ?_
      rintro e w2 ⟨rfl, hk, hc⟩
      have HK2 := lhid hk
      have HC2 := lhid (HC1.out.tr hc)
      clear hk hc
      go_wp2_with fail
      with_reducible refine (push1_c HE HF HK2 tI (by decide)).mono ?_
      rintro e w3 ⟨rfl, hk, hc⟩
      have HK3 := lhid hk
      have HC3 := lhid (HC2.out.tr hc)
      clear hk hc
      go_wp2_with fail
      go_end0
      rw [HR.out]
      exact ckOut_box HC.out HB0.out (HK3.out.more hN') HC3.out rfl
    · have d20 : ((tx x).toList == [78]) = false := by rw [tx_toL, beq_eq_false_iff_ne]; exact hN0
      obtain ⟨q, hq⟩ : ∃ q, decide (E.elem x = []) = q := ⟨_, rfl⟩
      have e1 : ((tx (E.elem x)).toList == []) = q := by rw [tx_toL, ← hq, Bool.eq_iff_iff]; simp
      have e2 : (tx (E.elem x)).toList.isEmpty = q := by rw [tx_toL, ← hq, Bool.eq_iff_iff]; simp
      have HB9 : Hid (q = decide (x ≠ [78] ∧ E.elem x = [])) := lhid (by rw [← hq, Bool.eq_iff_iff]; simp [hN0])
      clear hN0 hx hq
      go_wp2_with fail
      with_reducible refine (HE.out.elem x _).mono ?_
      rintro e w9 ⟨rfl, rfl⟩
      go_wp2_with fail
      with_reducible refine (refuse_b HK1 (b' := decide (x ≠ [78] ∧ E.elem x = [])) HB9.out 62).mono ?_
      rintro e w2 ⟨rfl, hk, hc⟩
      have HK2 := lhid hk
      have HC2 := lhid (HC1.out.tr hc)
      clear hk hc
      go_wp2_with fail
      with_reducible refine (push1_c HE HF HK2 tI (by decide)).mono ?_
      rintro e w3 ⟨rfl, hk, hc⟩
      have HK3 := lhid hk
      have HC3 := lhid (HC2.out.tr hc)
      clear hk hc
      go_wp2_with fail
      go_end0
      rw [HR.out]
      exact ckOut_box HC.out HB0.out (HK3.out.more hN') HC3.out rfl
  by_cases h4 : o = 191
  · have HR : Hid (s.thing E o a = s.pop E [76, 84, 104, 114, 111, 119, 97, 98, 108, 101, 59]) := lhid (by unfold Cs.thing; rw [if_neg h0, if_neg h1, if_neg h2, if_neg h3, if_pos h4]; rfl)
    have d0 := ne_beq h0
    have d1 := ne_beq h1
    have d2 := ne_beq h2
    have d3 := ne_beq h3
    have d4 : (o == 191) = true := by rw [h4]; rfl
    clear h0 h1 h2 h3 h4
    go_wp2_with fail
    with_reducible refine (pop_b HE HK0 tTh (by decide)).mono ?_
    rintro e w1 ⟨rfl, hk, hc⟩
    have HK1 := lhid hk
    have HC1 := lhid (HC0.out.tr hc)
    clear hk hc
    go_wp2_with fail
    go_end0
    rw [HR.out]
    exact ckOut_box HC.out HB0.out (HK1.out.more hN') HC1.out rfl
  by_cases h5 : o = 192
  · have HR : Hid (s.thing E o a = (((s.pooled E a [7]).2.know E (E.of (s.pooled E a [7]).1.text)).popRef E).2.push E (E.of (s.pooled E a [7]).1.text)) := lhid (by unfold Cs.thing; rw [if_neg h0, if_neg h1, if_neg h2, if_neg h3, if_neg h4, if_pos (.inl h5)]; dsimp only; rw [if_pos h5])
    have d0 := ne_beq h0
    have d1 := ne_beq h1
    have d2 := ne_beq h2
    have d3 := ne_beq h3
    have d4 := ne_beq h4
    have d5 : (o == 192) = true := by rw [h5]; rfl
    clear h0 h1 h2 h3 h4 h5
    have hol := Nat.le_of_succ_le (of_small HE.out s a [7])
    go_wp2_with fail
    with_reducible refine (looked_c HE HF HK0 a ha).mono ?_
    rintro e w1 ⟨rfl, hk, hc⟩
    have HK1 := lhid hk
    have HC1 := lhid (HC0.out.tr hc)
    clear hk hc
    go_wp2_with fail
    with_reducible refine (push1_c HE HF HK1 (rfl : (tx (E.of (s.pooled E a [7]).1.text)) = tx (E.of (s.pooled E a [7]).1.text)) hol).mono ?_
    rintro e w2 ⟨rfl, hk, hc⟩
    have HK2 := lhid hk
    have HC2 := lhid (HC1.out.tr hc)
    clear hk hc
    go_wp2_with fail
    go_end0
    rw [HR.out]
    exact ckOut_box HC.out HB0.out (HK2.out.more hN') HC2.out rfl
  by_cases h6 : o = 193
  · have HR : Hid (s.thing E o a = (((s.pooled E a [7]).2.know E (E.of (s.pooled E a [7]).1.text)).popRef E).2.push E [73]) := lhid (by unfold Cs.thing; rw [if_neg h0, if_neg h1, if_neg h2, if_neg h3, if_neg h4, if_pos (.inr h6)]; dsimp only; rw [if_neg h5]; rfl)
    have d0 := ne_beq h0
    have d1 := ne_beq h1
    have d2 := ne_beq h2
    have d3 := ne_beq h3
    have d4 := ne_beq h4
    have d5 := ne_beq h5
    have d6 : (o == 193) = true := by rw [h6]; rfl
    clear h0 h1 h2 h3 h4 h5 h6
    go_wp2_with fail
    with_reducible refine (looked_c HE HF HK0 a ha).mono ?_
    rintro e w1 ⟨rfl, hk, hc⟩
    have HK1 := lhid hk
    have HC1 := lhid (HC0.out.tr hc)
    clear hk hc
    go_wp2_with fail
    with_reducible refine (push1_c HE HF HK1 tI (by decide)).mono ?_
    rintro e w2 ⟨rfl, hk, hc⟩
    have HK2 := lhid hk
    have HC2 := lhid (HC1.out.tr hc)
    clear hk hc
    go_wp2_with fail
    go_end0
    rw [HR.out]
    exact ckOut_box HC.out HB0.out (HK2.out.more hN') HC2.out rfl
  · have HR : Hid (s.thing E o a = s) := lhid (by unfold Cs.thing; rw [if_neg h0, if_neg h1, if_neg h2, if_neg h3, if_neg h4, if_neg (not_or.2 ⟨h5, h6⟩)])
    have d0 := ne_beq h0
    have d1 := ne_beq h1
    have d2 := ne_beq h2
    have d3 := ne_beq h3
    have d4 := ne_beq h4
    have d5 := ne_beq h5
    have d6 := ne_beq h6
    clear h0 h1 h2 h3 h4 h5 h6
    go_wp2_with fail
    go_end0
    rw [HR.out]
    exact ckOut_box HC.out HB0.out (HK0.out.more hN') HC0.out rfl
end
end Go.Proofs.YtpdnonlelocfbaaGreatDoor
