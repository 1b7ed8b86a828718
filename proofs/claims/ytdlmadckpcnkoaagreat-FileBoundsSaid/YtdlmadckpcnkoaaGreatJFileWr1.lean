/- Contract of the document's writer's num. Written by gen_wr1.py. -/
import Derived.Test.YtdlmadckpcnkoaaGreatM9
import Derived.Test.YtdlmadckpcnkoaaGreatJFileRef7
import Derived.Deep.AppendLies
import Derived.Deep.RegionLaw
namespace Go.Proofs.YtdlmadckpcnkoaaGreat
open Go.RowKit Go
set_option linter.unusedVariables false

def byV (l : Bs) : List Value := l.map fun c => .int .u8 (c.toNat : Int)
theorem byV_app (a b : Bs) : byV (a ++ b) = byV a ++ byV b := by simp [byV]
theorem infoU8 : (Tryz.prog.info? 5).map (fun i => (i.zero, i.size, i.bytes)) = some (some (.int .u8 0), 1, 1) := by kernel_rfl
/-- Block M is the document's writer: bytes so far, in memory from B on; is a constant missing? -/
def Wo (B M : Nat) (pv : Value) (w : World) (o : Ou) : Prop := ∃ v, w.heap[M]? = some (.cells #[v, pv, .bool o.2] 86 (0, 0)) ∧ w.ownsRow B 5 1 v o.1.length (byV o.1)
/-- Types that the writer writes no block of. -/
abbrev tW : List TypeId := [52, 29, 42, 47, 134, 97, 9]
theorem grownBelow {B : Nat} {w w' : World} {row : Option Nat} (hg : w.grownBy w' row) (hr : ∀ k, row = some k → B ≤ k) (hB : B ≤ w.heap.size) : Below B w w' :=
  ⟨hg.os, hg.tape, hg.output, hg.size, fun k hk => hg.block k (by omega) (fun e => by have := hr k e.symm; omega)⟩
theorem u8_wrap (y : Int) : IntKind.u8.wrap y = y % 256 := by
  simp [IntKind.wrap, IntKind.bits, IntKind.signed]
theorem byI_pow (x : Int) (i : Nat) (d : Int) (h : (2 : Int) ^ (8 * i) = d) : ((byI x i).toNat : Int) = IntKind.u8.wrap (x / d) := by
  rw [byI_nat, h]
  exact (u8_wrap _).symm

set_option maxHeartbeats 16000000 in
set_option maxRecDepth 100000 in
theorem wnum_any (B M : Nat) (pv : Value) (n : Nat) (x : Int) (o : Ou) (w : World) (h : Hid (Wo B M pv w o)) (hn : n ≤ 8) (hB : B ≤ w.heap.size) (hBM : B ≤ M) (hl : o.1.length ≤ 70368744177664) :
    Calls Tryz.prog 44 #[.pointer (some ⟨M, 0, none⟩), .int .i64 n, .int .i64 x] w fun e w' => e = .returned (.tuple #[]) ∧ Wo B M pv w' (wNum n x o) ∧ Below B w w' ∧ Stay tW w w' := by
  obtain ⟨v, HM0, HW0⟩ := h.out
  obtain ⟨A0, c0, rfl⟩ := own_shape HW0
  have HMx := lhid HM0
  have HWx := lhid HW0
  obtain ⟨i0, hi0, hz0, hz1, hz2⟩ := info_parts infoU8
  clear HM0 HW0 h
  go_enter Tryz.func44, Tryz.ntmps44
  go_wp2_with fail
  go_loopw [6] (fun i wr => ∃ (k : Nat) (l : Bs) (A : Option Addr) (c : Nat), i = .int .i64 ((k : Int) - 1) ∧ k ≤ n ∧ l.length + k ≤ o.1.length + n ∧ Hid (wr.heap[M]? = some (.cells #[.slice A l.length c, pv, .bool o.2] 86 (0, 0))) ∧ Hid (wr.ownsRow B 5 1 (.slice A l.length c) l.length (byV l)) ∧ Hid (Below B w wr) ∧ Hid (Stay tW w wr) ∧ Hid (l ++ beW k x = o.1 ++ beW n x)) (fun i _ => (intOf i + 1).toNat)
  case atStart => exact ⟨n, o.1, A0, c0, rfl, Nat.le_refl _, Nat.le_refl _, HMx, HWx, lhid (Below.refl _ _), lhid (Stay.refl _ _), lhid rfl⟩
  case round =>
    obtain ⟨k, l, A, c, rfl, hk, hll, HMr, HWr, HBr, HSr, HE⟩ := hrel
    clear HMx HWx
    have hks : k = 0 ∨ k = 1 ∨ k = 2 ∨ k = 3 ∨ k = 4 ∨ k = 5 ∨ k = 6 ∨ k = 7 ∨ k = 8 := by omega
    rcases hks with rfl | rfl | rfl | rfl | rfl | rfl | rfl | rfl | rfl
    · go_wp2_with fail
      go_end0
      have he := HE.out
      rw [beW, List.append_nil] at he
      subst he
      exact ⟨rfl, ⟨.slice A (o.1 ++ beW n x).length c, HMr.out, HWr.out⟩, HBr.out, HSr.out⟩
    · have wl : IntKind.i64.wrap 0 = 0 := rfl
      have m0 := heap_cell (i := 0) HMr.out rfl
      have mz := heap_thaw HMr.out 0
      have h63 : l.length + 1 ≤ maxLen := by unfold maxLen; omega
      have hby : (l.length + 1) * 1 ≤ 140737488355328 := by omega
      have H1C : Hid (∀ u ∈ ([.int .u8 (IntKind.u8.wrap x)] : List Value), u.oneCell' = true) := lhid (by intro u hu; simp at hu; subst hu; rfl)
      go_upto_region 3 with fail
      refine wp_region_any (by kernel_rfl) ?_
      try (change wpAny _ _ _ _ _ _ _ (World.drew _))
      refine wpAny_take (i := 0) (v := ?v0_1) rfl (by kernel_rfl) (by kernel_rfl) (by kernel_rfl) (fun _ _ _ h => h) (Or.inl ⟨by rfl, ?hy0_1⟩) ?rest0_1
      case hy0_1 => intro w; (first | (go_simp; done) | (go_simp; with_reducible rfl))
      refine wpAny_take (i := 1) (v := ?v1_2) rfl (by kernel_rfl) (by kernel_rfl) (by kernel_rfl) (fun _ _ _ h => h) (Or.inl ⟨by rfl, ?hy1_2⟩) ?rest1_2
      case hy1_2 => intro w; (first | (go_simp; done) | (go_simp; with_reducible rfl))
      refine wpAny_take (i := 2) (v := ?v2_3) rfl (by kernel_rfl) (by kernel_rfl) (by kernel_rfl) (fun _ _ _ h => h) (Or.inl ⟨by rfl, ?hy2_3⟩) ?rest2_3
      case hy2_3 => intro w; (first | (go_simp; done) | (go_simp; with_reducible rfl))
      refine wpAny_take (i := 3) (v := ?v3_4) rfl (by kernel_rfl) (by kernel_rfl) (by kernel_rfl) (fun _ _ _ h => h) (Or.inl ⟨by rfl, ?hy3_4⟩) ?rest3_4
      case hy3_4 => intro w; (first | (go_simp; done) | (go_simp; with_reducible rfl))
      refine wpAny_take (i := 5) (v := ?v5_5) rfl (by kernel_rfl) (by kernel_rfl) (by kernel_rfl) (fun _ _ _ h => h) (Or.inl ⟨by rfl, ?hy5_5⟩) ?rest5_5
      case hy5_5 => intro w; (first | (go_simp; done) | (go_simp; with_reducible rfl))
      refine wpAny_take (i := 6) (v := ?v6_6) rfl (by kernel_rfl) (by kernel_rfl) (by kernel_rfl) (fun _ _ _ h => h) (Or.inl ⟨by rfl, ?hy6_6⟩) ?rest6_6
      case hy6_6 => intro w; (first | (go_simp; done) | (go_simp; with_reducible rfl))
      refine wpAny_take (i := 7) (v := ?v7_7) rfl (by kernel_rfl) (by kernel_rfl) (by kernel_rfl) (fun _ _ _ h => h) (Or.inl ⟨by rfl, ?hy7_7⟩) ?rest7_7
      case hy7_7 => intro w; (first | (go_simp; done) | (go_simp; with_reducible rfl))
      refine wpAny_take (i := 8) (v := ?v8_8) rfl (by kernel_rfl) (by kernel_rfl) (by kernel_rfl) (fun _ _ _ h => h) (Or.inl ⟨by rfl, ?hy8_8⟩) ?rest8_8
      case hy8_8 => intro w; (first | (go_simp; done) | (go_simp; with_reducible rfl))
      refine wpAny_take (i := 9) (v := ?v9_9) rfl (by kernel_rfl) (by kernel_rfl) (by kernel_rfl) (fun _ _ _ h => h) (Or.inl ⟨by rfl, ?hy9_9⟩) ?rest9_9
      case hy9_9 => intro w; (first | (go_simp; done) | (go_simp; with_reducible rfl))
      refine wpAny_ready (rs := [4, 10]) (by kernel_rfl) (by simp) ?_
      refine AllReady.cons rfl (fun K hK => ?_) (AllReady.cons rfl (fun K hK => ?_) AllReady.nil)
      · go_simp
        refine hK _ _ ?_
        clear hK K
        refine wpAny_ready (rs := [10]) (by kernel_rfl) (by simp) ?_
        refine AllReady.cons rfl (fun K hK => ?_) AllReady.nil
        go_simp
        refine hK _ _ ?_
        clear hK K
        have HMa : Hid ((wr.alloc (.cells #[.int .u8 (IntKind.u8.wrap x)] 5 (0, 0))).drew.heap[M]? = some (.cells #[.slice A l.length c, pv, .bool o.2] 86 (0, 0))) := lhid ((Below.heap_alloc wr (.cells #[.int .u8 (IntKind.u8.wrap x)] 5 (0, 0)) _ (heap_lt HMr.out)).trans HMr.out)
        have HWa : Hid ((wr.alloc (.cells #[.int .u8 (IntKind.u8.wrap x)] 5 (0, 0))).drew.ownsRow B 5 1 (.slice A l.length c) l.length (byV l)) := lhid (own_far (HWr.out.alloc (.cells #[.int .u8 (IntKind.u8.wrap x)] 5 (0, 0))) (w' := (wr.alloc (.cells #[.int .u8 (IntKind.u8.wrap x)] 5 (0, 0))).drew) fun _ _ => rfl)
        have HBa : Hid (Below B w (wr.alloc (.cells #[.int .u8 (IntKind.u8.wrap x)] 5 (0, 0))).drew) := lhid ((HBr.out.alloc (Nat.le_trans hB HBr.out.size) (.cells #[.int .u8 (IntKind.u8.wrap x)] 5 (0, 0))).drew)
        have HSa : Hid (Stay tW w (wr.alloc (.cells #[.int .u8 (IntKind.u8.wrap x)] 5 (0, 0))).drew) := lhid ((HSr.out.alloc (.cells #[.int .u8 (IntKind.u8.wrap x)] 5 (0, 0))).drew)
        have HNa : Hid ((wr.alloc (.cells #[.int .u8 (IntKind.u8.wrap x)] 5 (0, 0))).drew.heap[wr.heap.size]? = some (.cells #[.int .u8 (IntKind.u8.wrap x)] 5 (0, 0))) := lhid (heap_alloc_new wr (.cells #[.int .u8 (IntKind.u8.wrap x)] 5 (0, 0)))
        have m0a := heap_cell (i := 0) HMa.out rfl
        refine wpAny_ready (rs := [11]) (by kernel_rfl) (by simp) ?_
        refine AllReady.cons rfl (fun K hK => ?_) AllReady.nil
        refine step_append_lies _ rfl (.tmp 17) (.tmp 23) 22 rfl B 5 i0 (.int .u8 0) 1 1 Tryz.underlying22 hi0 hz0 hz1 hz2 rfl (by decide) (.slice A l.length c) l.length (byV l) rfl HWa.out _ 1 _ [.int .u8 (IntKind.u8.wrap x)] rfl rfl (World.news_of_block HNa.out) H1C.out (by decide) h63 hby (Nat.le_trans hB HBa.out.size) _ rfl ?_
        intro g cap w6 hown hgrow hat hlt6
        have hge := own_lt HWa.out
        have hM6 : w6.heap[M]? = some (.cells #[.slice A l.length c, pv, .bool o.2] 86 (0, 0)) := (grown_stay (Ts := [86]) hgrow HWa.out (by decide)) M _ _ _ (by simp) HMa.out
        have q6 := heap_cell (i := 0) hM6 rfl
        have z6 := heap_thaw hM6 0
        refine hK _ _ ?_
        clear hK K
        refine wpAny_take (i := 12) (v := ?v12_10) rfl (by kernel_rfl) (by kernel_rfl) (by kernel_rfl) (fun _ _ _ h => h) (Or.inl ⟨by rfl, ?hy12_10⟩) ?rest12_10
        case hy12_10 => intro w; (first | (go_simp; done) | (go_simp; with_reducible rfl))
        refine wpAny_take (i := 13) (v := ?v13_11) rfl (by kernel_rfl) (by kernel_rfl) (by kernel_rfl) (fun _ _ _ h => h) (Or.inl ⟨by rfl, ?hy13_11⟩) ?rest13_11
        case hy13_11 => intro w; (first | (go_simp; done) | (go_simp; with_reducible rfl))
        refine wpAny_ready (rs := [14]) (by kernel_rfl) (by simp) ?_
        refine AllReady.cons rfl (fun K hK => ?_) AllReady.nil
        go_simp
        refine hK _ _ ?_
        clear hK K
        refine wpAny_done (by kernel_rfl) ?_ _
        have hcap : byV (l ++ [byI x 0]) = byV l ++ [.int .u8 (IntKind.u8.wrap x)] := by rw [byV_app]; simp only [byV, List.map_cons, List.map_nil]; rw [byI_pow x 0 1 (by decide), Int.ediv_one]
        have HMn : Hid ((w6.setCell ⟨M, 0, none⟩ (.slice (some ⟨g, 0, none⟩) (l.length + 1) cap)).heap[M]? = some (.cells #[.slice (some ⟨g, 0, none⟩) (l.length + 1) cap, pv, .bool o.2] 86 (0, 0))) := lhid (heap_set hM6 _)
        have HWn : Hid ((w6.setCell ⟨M, 0, none⟩ (.slice (some ⟨g, 0, none⟩) (l.length + 1) cap)).ownsRow B 5 1 (.slice (some ⟨g, 0, none⟩) (l.length + 1) cap) (l.length + 1) (byV (l ++ [byI x 0]))) := lhid (by rw [hcap]; exact own_stay hown ((Stay.refl [5] w6).set (p := ⟨M, 0, none⟩) hM6 (by decide) _) (by simp))
        have HBn : Hid (Below B w (w6.setCell ⟨M, 0, none⟩ (.slice (some ⟨g, 0, none⟩) (l.length + 1) cap))) := lhid ((HBa.out.trans (grownBelow hgrow hge (Nat.le_trans hB HBa.out.size))).setCell (p := ⟨M, 0, none⟩) hBM _)
        have HSn : Hid (Stay tW w (w6.setCell ⟨M, 0, none⟩ (.slice (some ⟨g, 0, none⟩) (l.length + 1) cap))) := lhid ((HSa.out.trans (grown_stay hgrow HWa.out (by decide))).set (p := ⟨M, 0, none⟩) hM6 (by decide) _)
        clear hown hgrow hat hge hlt6 hM6 q6 z6 hcap
        go_wp2
        go_roundw
        case rel =>
          have hlen : (l ++ [byI x 0]).length = l.length + 1 := by simp
          refine ⟨0, l ++ [byI x 0], some ⟨g, 0, none⟩, cap, by simp, by omega, by rw [hlen]; omega, lhid (by rw [hlen]; exact HMn.out), lhid (by rw [hlen]; exact HWn.out), HBn, HSn, lhid ?_⟩
          rw [← HE.out, beW, List.append_assoc]
          rfl
        case measure => simp [intOf]
      · go_simp
        refine hK _ _ ?_
        clear hK K
        have HMa : Hid ((wr.alloc (.cells #[.int .u8 (IntKind.u8.wrap x)] 5 (0, 0))).drew.heap[M]? = some (.cells #[.slice A l.length c, pv, .bool o.2] 86 (0, 0))) := lhid ((Below.heap_alloc wr (.cells #[.int .u8 (IntKind.u8.wrap x)] 5 (0, 0)) _ (heap_lt HMr.out)).trans HMr.out)
        have HWa : Hid ((wr.alloc (.cells #[.int .u8 (IntKind.u8.wrap x)] 5 (0, 0))).drew.ownsRow B 5 1 (.slice A l.length c) l.length (byV l)) := lhid (own_far (HWr.out.alloc (.cells #[.int .u8 (IntKind.u8.wrap x)] 5 (0, 0))) (w' := (wr.alloc (.cells #[.int .u8 (IntKind.u8.wrap x)] 5 (0, 0))).drew) fun _ _ => rfl)
        have HBa : Hid (Below B w (wr.alloc (.cells #[.int .u8 (IntKind.u8.wrap x)] 5 (0, 0))).drew) := lhid ((HBr.out.alloc (Nat.le_trans hB HBr.out.size) (.cells #[.int .u8 (IntKind.u8.wrap x)] 5 (0, 0))).drew)
        have HSa : Hid (Stay tW w (wr.alloc (.cells #[.int .u8 (IntKind.u8.wrap x)] 5 (0, 0))).drew) := lhid ((HSr.out.alloc (.cells #[.int .u8 (IntKind.u8.wrap x)] 5 (0, 0))).drew)
        have HNa : Hid ((wr.alloc (.cells #[.int .u8 (IntKind.u8.wrap x)] 5 (0, 0))).drew.heap[wr.heap.size]? = some (.cells #[.int .u8 (IntKind.u8.wrap x)] 5 (0, 0))) := lhid (heap_alloc_new wr (.cells #[.int .u8 (IntKind.u8.wrap x)] 5 (0, 0)))
        have m0a := heap_cell (i := 0) HMa.out rfl
        refine wpAny_ready (rs := [4]) (by kernel_rfl) (by simp) ?_
        refine AllReady.cons rfl (fun K hK => ?_) AllReady.nil
        go_simp
        refine hK _ _ ?_
        clear hK K
        refine wpAny_ready (rs := [11]) (by kernel_rfl) (by simp) ?_
        refine AllReady.cons rfl (fun K hK => ?_) AllReady.nil
        refine step_append_lies _ rfl (.tmp 17) (.tmp 23) 22 rfl B 5 i0 (.int .u8 0) 1 1 Tryz.underlying22 hi0 hz0 hz1 hz2 rfl (by decide) (.slice A l.length c) l.length (byV l) rfl HWa.out _ 1 _ [.int .u8 (IntKind.u8.wrap x)] rfl rfl (World.news_of_block HNa.out) H1C.out (by decide) h63 hby (Nat.le_trans hB HBa.out.size) _ rfl ?_
        intro g cap w6 hown hgrow hat hlt6
        have hge := own_lt HWa.out
        have hM6 : w6.heap[M]? = some (.cells #[.slice A l.length c, pv, .bool o.2] 86 (0, 0)) := (grown_stay (Ts := [86]) hgrow HWa.out (by decide)) M _ _ _ (by simp) HMa.out
        have q6 := heap_cell (i := 0) hM6 rfl
        have z6 := heap_thaw hM6 0
        refine hK _ _ ?_
        clear hK K
        refine wpAny_take (i := 12) (v := ?v12_12) rfl (by kernel_rfl) (by kernel_rfl) (by kernel_rfl) (fun _ _ _ h => h) (Or.inl ⟨by rfl, ?hy12_12⟩) ?rest12_12
        case hy12_12 => intro w; (first | (go_simp; done) | (go_simp; with_reducible rfl))
        refine wpAny_take (i := 13) (v := ?v13_13) rfl (by kernel_rfl) (by kernel_rfl) (by kernel_rfl) (fun _ _ _ h => h) (Or.inl ⟨by rfl, ?hy13_13⟩) ?rest13_13
        case hy13_13 => intro w; (first | (go_simp; done) | (go_simp; with_reducible rfl))
        refine wpAny_ready (rs := [14]) (by kernel_rfl) (by simp) ?_
        refine AllReady.cons rfl (fun K hK => ?_) AllReady.nil
        go_simp
        refine hK _ _ ?_
        clear hK K
        refine wpAny_done (by kernel_rfl) ?_ _
        have hcap : byV (l ++ [byI x 0]) = byV l ++ [.int .u8 (IntKind.u8.wrap x)] := by rw [byV_app]; simp only [byV, List.map_cons, List.map_nil]; rw [byI_pow x 0 1 (by decide), Int.ediv_one]
        have HMn : Hid ((w6.setCell ⟨M, 0, none⟩ (.slice (some ⟨g, 0, none⟩) (l.length + 1) cap)).heap[M]? = some (.cells #[.slice (some ⟨g, 0, none⟩) (l.length + 1) cap, pv, .bool o.2] 86 (0, 0))) := lhid (heap_set hM6 _)
        have HWn : Hid ((w6.setCell ⟨M, 0, none⟩ (.slice (some ⟨g, 0, none⟩) (l.length + 1) cap)).ownsRow B 5 1 (.slice (some ⟨g, 0, none⟩) (l.length + 1) cap) (l.length + 1) (byV (l ++ [byI x 0]))) := lhid (by rw [hcap]; exact own_stay hown ((Stay.refl [5] w6).set (p := ⟨M, 0, none⟩) hM6 (by decide) _) (by simp))
        have HBn : Hid (Below B w (w6.setCell ⟨M, 0, none⟩ (.slice (some ⟨g, 0, none⟩) (l.length + 1) cap))) := lhid ((HBa.out.trans (grownBelow hgrow hge (Nat.le_trans hB HBa.out.size))).setCell (p := ⟨M, 0, none⟩) hBM _)
        have HSn : Hid (Stay tW w (w6.setCell ⟨M, 0, none⟩ (.slice (some ⟨g, 0, none⟩) (l.length + 1) cap))) := lhid ((HSa.out.trans (grown_stay hgrow HWa.out (by decide))).set (p := ⟨M, 0, none⟩) hM6 (by decide) _)
        clear hown hgrow hat hge hlt6 hM6 q6 z6 hcap
        go_wp2
        go_roundw
        case rel =>
          have hlen : (l ++ [byI x 0]).length = l.length + 1 := by simp
          refine ⟨0, l ++ [byI x 0], some ⟨g, 0, none⟩, cap, by simp, by omega, by rw [hlen]; omega, lhid (by rw [hlen]; exact HMn.out), lhid (by rw [hlen]; exact HWn.out), HBn, HSn, lhid ?_⟩
          rw [← HE.out, beW, List.append_assoc]
          rfl
        case measure => simp [intOf]
    · have wl : IntKind.i64.wrap 8 = 8 := rfl
      have m0 := heap_cell (i := 0) HMr.out rfl
      have mz := heap_thaw HMr.out 0
      have h63 : l.length + 1 ≤ maxLen := by unfold maxLen; omega
      have hby : (l.length + 1) * 1 ≤ 140737488355328 := by omega
      have H1C : Hid (∀ u ∈ ([.int .u8 (IntKind.u8.wrap (x / 256))] : List Value), u.oneCell' = true) := lhid (by intro u hu; simp at hu; subst hu; rfl)
      go_upto_region 3 with fail
      refine wp_region_any (by kernel_rfl) ?_
      try (change wpAny _ _ _ _ _ _ _ (World.drew _))
      refine wpAny_take (i := 0) (v := ?v0_14) rfl (by kernel_rfl) (by kernel_rfl) (by kernel_rfl) (fun _ _ _ h => h) (Or.inl ⟨by rfl, ?hy0_14⟩) ?rest0_14
      case hy0_14 => intro w; (first | (go_simp; done) | (go_simp; with_reducible rfl))
      refine wpAny_take (i := 1) (v := ?v1_15) rfl (by kernel_rfl) (by kernel_rfl) (by kernel_rfl) (fun _ _ _ h => h) (Or.inl ⟨by rfl, ?hy1_15⟩) ?rest1_15
      case hy1_15 => intro w; (first | (go_simp; done) | (go_simp; with_reducible rfl))
      refine wpAny_take (i := 2) (v := ?v2_16) rfl (by kernel_rfl) (by kernel_rfl) (by kernel_rfl) (fun _ _ _ h => h) (Or.inl ⟨by rfl, ?hy2_16⟩) ?rest2_16
      case hy2_16 => intro w; (first | (go_simp; done) | (go_simp; with_reducible rfl))
      refine wpAny_take (i := 3) (v := ?v3_17) rfl (by kernel_rfl) (by kernel_rfl) (by kernel_rfl) (fun _ _ _ h => h) (Or.inl ⟨by rfl, ?hy3_17⟩) ?rest3_17
      case hy3_17 => intro w; (first | (go_simp; done) | (go_simp; with_reducible rfl))
      refine wpAny_take (i := 5) (v := ?v5_18) rfl (by kernel_rfl) (by kernel_rfl) (by kernel_rfl) (fun _ _ _ h => h) (Or.inl ⟨by rfl, ?hy5_18⟩) ?rest5_18
      case hy5_18 => intro w; (first | (go_simp; done) | (go_simp; with_reducible rfl))
      refine wpAny_take (i := 6) (v := ?v6_19) rfl (by kernel_rfl) (by kernel_rfl) (by kernel_rfl) (fun _ _ _ h => h) (Or.inl ⟨by rfl, ?hy6_19⟩) ?rest6_19
      case hy6_19 => intro w; (first | (go_simp; done) | (go_simp; with_reducible rfl))
      refine wpAny_take (i := 7) (v := ?v7_20) rfl (by kernel_rfl) (by kernel_rfl) (by kernel_rfl) (fun _ _ _ h => h) (Or.inl ⟨by rfl, ?hy7_20⟩) ?rest7_20
      case hy7_20 => intro w; (first | (go_simp; done) | (go_simp; with_reducible rfl))
      refine wpAny_take (i := 8) (v := ?v8_21) rfl (by kernel_rfl) (by kernel_rfl) (by kernel_rfl) (fun _ _ _ h => h) (Or.inl ⟨by rfl, ?hy8_21⟩) ?rest8_21
      case hy8_21 => intro w; (first | (go_simp; done) | (go_simp; with_reducible rfl))
      refine wpAny_take (i := 9) (v := ?v9_22) rfl (by kernel_rfl) (by kernel_rfl) (by kernel_rfl) (fun _ _ _ h => h) (Or.inl ⟨by rfl, ?hy9_22⟩) ?rest9_22
      case hy9_22 => intro w; (first | (go_simp; done) | (go_simp; with_reducible rfl))
      refine wpAny_ready (rs := [4, 10]) (by kernel_rfl) (by simp) ?_
      refine AllReady.cons rfl (fun K hK => ?_) (AllReady.cons rfl (fun K hK => ?_) AllReady.nil)
      · go_simp
        refine hK _ _ ?_
        clear hK K
        refine wpAny_ready (rs := [10]) (by kernel_rfl) (by simp) ?_
        refine AllReady.cons rfl (fun K hK => ?_) AllReady.nil
        go_simp
        refine hK _ _ ?_
        clear hK K
        have HMa : Hid ((wr.alloc (.cells #[.int .u8 (IntKind.u8.wrap (x / 256))] 5 (0, 0))).drew.heap[M]? = some (.cells #[.slice A l.length c, pv, .bool o.2] 86 (0, 0))) := lhid ((Below.heap_alloc wr (.cells #[.int .u8 (IntKind.u8.wrap (x / 256))] 5 (0, 0)) _ (heap_lt HMr.out)).trans HMr.out)
        have HWa : Hid ((wr.alloc (.cells #[.int .u8 (IntKind.u8.wrap (x / 256))] 5 (0, 0))).drew.ownsRow B 5 1 (.slice A l.length c) l.length (byV l)) := lhid (own_far (HWr.out.alloc (.cells #[.int .u8 (IntKind.u8.wrap (x / 256))] 5 (0, 0))) (w' := (wr.alloc (.cells #[.int .u8 (IntKind.u8.wrap (x / 256))] 5 (0, 0))).drew) fun _ _ => rfl)
        have HBa : Hid (Below B w (wr.alloc (.cells #[.int .u8 (IntKind.u8.wrap (x / 256))] 5 (0, 0))).drew) := lhid ((HBr.out.alloc (Nat.le_trans hB HBr.out.size) (.cells #[.int .u8 (IntKind.u8.wrap (x / 256))] 5 (0, 0))).drew)
        have HSa : Hid (Stay tW w (wr.alloc (.cells #[.int .u8 (IntKind.u8.wrap (x / 256))] 5 (0, 0))).drew) := lhid ((HSr.out.alloc (.cells #[.int .u8 (IntKind.u8.wrap (x / 256))] 5 (0, 0))).drew)
        have HNa : Hid ((wr.alloc (.cells #[.int .u8 (IntKind.u8.wrap (x / 256))] 5 (0, 0))).drew.heap[wr.heap.size]? = some (.cells #[.int .u8 (IntKind.u8.wrap (x / 256))] 5 (0, 0))) := lhid (heap_alloc_new wr (.cells #[.int .u8 (IntKind.u8.wrap (x / 256))] 5 (0, 0)))
        have m0a := heap_cell (i := 0) HMa.out rfl
        refine wpAny_ready (rs := [11]) (by kernel_rfl) (by simp) ?_
        refine AllReady.cons rfl (fun K hK => ?_) AllReady.nil
        refine step_append_lies _ rfl (.tmp 17) (.tmp 23) 22 rfl B 5 i0 (.int .u8 0) 1 1 Tryz.underlying22 hi0 hz0 hz1 hz2 rfl (by decide) (.slice A l.length c) l.length (byV l) rfl HWa.out _ 1 _ [.int .u8 (IntKind.u8.wrap (x / 256))] rfl rfl (World.news_of_block HNa.out) H1C.out (by decide) h63 hby (Nat.le_trans hB HBa.out.size) _ rfl ?_
        intro g cap w6 hown hgrow hat hlt6
        have hge := own_lt HWa.out
        have hM6 : w6.heap[M]? = some (.cells #[.slice A l.length c, pv, .bool o.2] 86 (0, 0)) := (grown_stay (Ts := [86]) hgrow HWa.out (by decide)) M _ _ _ (by simp) HMa.out
        have q6 := heap_cell (i := 0) hM6 rfl
        have z6 := heap_thaw hM6 0
        refine hK _ _ ?_
        clear hK K
        refine wpAny_take (i := 12) (v := ?v12_23) rfl (by kernel_rfl) (by kernel_rfl) (by kernel_rfl) (fun _ _ _ h => h) (Or.inl ⟨by rfl, ?hy12_23⟩) ?rest12_23
        case hy12_23 => intro w; (first | (go_simp; done) | (go_simp; with_reducible rfl))
        refine wpAny_take (i := 13) (v := ?v13_24) rfl (by kernel_rfl) (by kernel_rfl) (by kernel_rfl) (fun _ _ _ h => h) (Or.inl ⟨by rfl, ?hy13_24⟩) ?rest13_24
        case hy13_24 => intro w; (first | (go_simp; done) | (go_simp; with_reducible rfl))
        refine wpAny_ready (rs := [14]) (by kernel_rfl) (by simp) ?_
        refine AllReady.cons rfl (fun K hK => ?_) AllReady.nil
        go_simp
        refine hK _ _ ?_
        clear hK K
        refine wpAny_done (by kernel_rfl) ?_ _
        have hcap : byV (l ++ [byI x 1]) = byV l ++ [.int .u8 (IntKind.u8.wrap (x / 256))] := by rw [byV_app]; simp only [byV, List.map_cons, List.map_nil]; rw [byI_pow x 1 256 (by decide)]
        have HMn : Hid ((w6.setCell ⟨M, 0, none⟩ (.slice (some ⟨g, 0, none⟩) (l.length + 1) cap)).heap[M]? = some (.cells #[.slice (some ⟨g, 0, none⟩) (l.length + 1) cap, pv, .bool o.2] 86 (0, 0))) := lhid (heap_set hM6 _)
        have HWn : Hid ((w6.setCell ⟨M, 0, none⟩ (.slice (some ⟨g, 0, none⟩) (l.length + 1) cap)).ownsRow B 5 1 (.slice (some ⟨g, 0, none⟩) (l.length + 1) cap) (l.length + 1) (byV (l ++ [byI x 1]))) := lhid (by rw [hcap]; exact own_stay hown ((Stay.refl [5] w6).set (p := ⟨M, 0, none⟩) hM6 (by decide) _) (by simp))
        have HBn : Hid (Below B w (w6.setCell ⟨M, 0, none⟩ (.slice (some ⟨g, 0, none⟩) (l.length + 1) cap))) := lhid ((HBa.out.trans (grownBelow hgrow hge (Nat.le_trans hB HBa.out.size))).setCell (p := ⟨M, 0, none⟩) hBM _)
        have HSn : Hid (Stay tW w (w6.setCell ⟨M, 0, none⟩ (.slice (some ⟨g, 0, none⟩) (l.length + 1) cap))) := lhid ((HSa.out.trans (grown_stay hgrow HWa.out (by decide))).set (p := ⟨M, 0, none⟩) hM6 (by decide) _)
        clear hown hgrow hat hge hlt6 hM6 q6 z6 hcap
        go_wp2
        go_roundw
        case rel =>
          have hlen : (l ++ [byI x 1]).length = l.length + 1 := by simp
          refine ⟨1, l ++ [byI x 1], some ⟨g, 0, none⟩, cap, by simp, by omega, by rw [hlen]; omega, lhid (by rw [hlen]; exact HMn.out), lhid (by rw [hlen]; exact HWn.out), HBn, HSn, lhid ?_⟩
          rw [← HE.out, beW, List.append_assoc]
          rfl
        case measure => simp [intOf]
      · go_simp
        refine hK _ _ ?_
        clear hK K
        have HMa : Hid ((wr.alloc (.cells #[.int .u8 (IntKind.u8.wrap (x / 256))] 5 (0, 0))).drew.heap[M]? = some (.cells #[.slice A l.length c, pv, .bool o.2] 86 (0, 0))) := lhid ((Below.heap_alloc wr (.cells #[.int .u8 (IntKind.u8.wrap (x / 256))] 5 (0, 0)) _ (heap_lt HMr.out)).trans HMr.out)
        have HWa : Hid ((wr.alloc (.cells #[.int .u8 (IntKind.u8.wrap (x / 256))] 5 (0, 0))).drew.ownsRow B 5 1 (.slice A l.length c) l.length (byV l)) := lhid (own_far (HWr.out.alloc (.cells #[.int .u8 (IntKind.u8.wrap (x / 256))] 5 (0, 0))) (w' := (wr.alloc (.cells #[.int .u8 (IntKind.u8.wrap (x / 256))] 5 (0, 0))).drew) fun _ _ => rfl)
        have HBa : Hid (Below B w (wr.alloc (.cells #[.int .u8 (IntKind.u8.wrap (x / 256))] 5 (0, 0))).drew) := lhid ((HBr.out.alloc (Nat.le_trans hB HBr.out.size) (.cells #[.int .u8 (IntKind.u8.wrap (x / 256))] 5 (0, 0))).drew)
        have HSa : Hid (Stay tW w (wr.alloc (.cells #[.int .u8 (IntKind.u8.wrap (x / 256))] 5 (0, 0))).drew) := lhid ((HSr.out.alloc (.cells #[.int .u8 (IntKind.u8.wrap (x / 256))] 5 (0, 0))).drew)
        have HNa : Hid ((wr.alloc (.cells #[.int .u8 (IntKind.u8.wrap (x / 256))] 5 (0, 0))).drew.heap[wr.heap.size]? = some (.cells #[.int .u8 (IntKind.u8.wrap (x / 256))] 5 (0, 0))) := lhid (heap_alloc_new wr (.cells #[.int .u8 (IntKind.u8.wrap (x / 256))] 5 (0, 0)))
        have m0a := heap_cell (i := 0) HMa.out rfl
        refine wpAny_ready (rs := [4]) (by kernel_rfl) (by simp) ?_
        refine AllReady.cons rfl (fun K hK => ?_) AllReady.nil
        go_simp
        refine hK _ _ ?_
        clear hK K
        refine wpAny_ready (rs := [11]) (by kernel_rfl) (by simp) ?_
        refine AllReady.cons rfl (fun K hK => ?_) AllReady.nil
        refine step_append_lies _ rfl (.tmp 17) (.tmp 23) 22 rfl B 5 i0 (.int .u8 0) 1 1 Tryz.underlying22 hi0 hz0 hz1 hz2 rfl (by decide) (.slice A l.length c) l.length (byV l) rfl HWa.out _ 1 _ [.int .u8 (IntKind.u8.wrap (x / 256))] rfl rfl (World.news_of_block HNa.out) H1C.out (by decide) h63 hby (Nat.le_trans hB HBa.out.size) _ rfl ?_
        intro g cap w6 hown hgrow hat hlt6
        have hge := own_lt HWa.out
        have hM6 : w6.heap[M]? = some (.cells #[.slice A l.length c, pv, .bool o.2] 86 (0, 0)) := (grown_stay (Ts := [86]) hgrow HWa.out (by decide)) M _ _ _ (by simp) HMa.out
        have q6 := heap_cell (i := 0) hM6 rfl
        have z6 := heap_thaw hM6 0
        refine hK _ _ ?_
        clear hK K
        refine wpAny_take (i := 12) (v := ?v12_25) rfl (by kernel_rfl) (by kernel_rfl) (by kernel_rfl) (fun _ _ _ h => h) (Or.inl ⟨by rfl, ?hy12_25⟩) ?rest12_25
        case hy12_25 => intro w; (first | (go_simp; done) | (go_simp; with_reducible rfl))
        refine wpAny_take (i := 13) (v := ?v13_26) rfl (by kernel_rfl) (by kernel_rfl) (by kernel_rfl) (fun _ _ _ h => h) (Or.inl ⟨by rfl, ?hy13_26⟩) ?rest13_26
        case hy13_26 => intro w; (first | (go_simp; done) | (go_simp; with_reducible rfl))
        refine wpAny_ready (rs := [14]) (by kernel_rfl) (by simp) ?_
        refine AllReady.cons rfl (fun K hK => ?_) AllReady.nil
        go_simp
        refine hK _ _ ?_
        clear hK K
        refine wpAny_done (by kernel_rfl) ?_ _
        have hcap : byV (l ++ [byI x 1]) = byV l ++ [.int .u8 (IntKind.u8.wrap (x / 256))] := by rw [byV_app]; simp only [byV, List.map_cons, List.map_nil]; rw [byI_pow x 1 256 (by decide)]
        have HMn : Hid ((w6.setCell ⟨M, 0, none⟩ (.slice (some ⟨g, 0, none⟩) (l.length + 1) cap)).heap[M]? = some (.cells #[.slice (some ⟨g, 0, none⟩) (l.length + 1) cap, pv, .bool o.2] 86 (0, 0))) := lhid (heap_set hM6 _)
        have HWn : Hid ((w6.setCell ⟨M, 0, none⟩ (.slice (some ⟨g, 0, none⟩) (l.length + 1) cap)).ownsRow B 5 1 (.slice (some ⟨g, 0, none⟩) (l.length + 1) cap) (l.length + 1) (byV (l ++ [byI x 1]))) := lhid (by rw [hcap]; exact own_stay hown ((Stay.refl [5] w6).set (p := ⟨M, 0, none⟩) hM6 (by decide) _) (by simp))
        have HBn : Hid (Below B w (w6.setCell ⟨M, 0, none⟩ (.slice (some ⟨g, 0, none⟩) (l.length + 1) cap))) := lhid ((HBa.out.trans (grownBelow hgrow hge (Nat.le_trans hB HBa.out.size))).setCell (p := ⟨M, 0, none⟩) hBM _)
        have HSn : Hid (Stay tW w (w6.setCell ⟨M, 0, none⟩ (.slice (some ⟨g, 0, none⟩) (l.length + 1) cap))) := lhid ((HSa.out.trans (grown_stay hgrow HWa.out (by decide))).set (p := ⟨M, 0, none⟩) hM6 (by decide) _)
        clear hown hgrow hat hge hlt6 hM6 q6 z6 hcap
        go_wp2
        go_roundw
        case rel =>
          have hlen : (l ++ [byI x 1]).length = l.length + 1 := by simp
          refine ⟨1, l ++ [byI x 1], some ⟨g, 0, none⟩, cap, by simp, by omega, by rw [hlen]; omega, lhid (by rw [hlen]; exact HMn.out), lhid (by rw [hlen]; exact HWn.out), HBn, HSn, lhid ?_⟩
          rw [← HE.out, beW, List.append_assoc]
          rfl
        case measure => simp [intOf]
    · have wl : IntKind.i64.wrap 16 = 16 := rfl
      have m0 := heap_cell (i := 0) HMr.out rfl
      have mz := heap_thaw HMr.out 0
      have h63 : l.length + 1 ≤ maxLen := by unfold maxLen; omega
      have hby : (l.length + 1) * 1 ≤ 140737488355328 := by omega
      have H1C : Hid (∀ u ∈ ([.int .u8 (IntKind.u8.wrap (x / 65536))] : List Value), u.oneCell' = true) := lhid (by intro u hu; simp at hu; subst hu; rfl)
      go_upto_region 3 with fail
      refine wp_region_any (by kernel_rfl) ?_
      try (change wpAny _ _ _ _ _ _ _ (World.drew _))
      refine wpAny_take (i := 0) (v := ?v0_27) rfl (by kernel_rfl) (by kernel_rfl) (by kernel_rfl) (fun _ _ _ h => h) (Or.inl ⟨by rfl, ?hy0_27⟩) ?rest0_27
      case hy0_27 => intro w; (first | (go_simp; done) | (go_simp; with_reducible rfl))
      refine wpAny_take (i := 1) (v := ?v1_28) rfl (by kernel_rfl) (by kernel_rfl) (by kernel_rfl) (fun _ _ _ h => h) (Or.inl ⟨by rfl, ?hy1_28⟩) ?rest1_28
      case hy1_28 => intro w; (first | (go_simp; done) | (go_simp; with_reducible rfl))
      refine wpAny_take (i := 2) (v := ?v2_29) rfl (by kernel_rfl) (by kernel_rfl) (by kernel_rfl) (fun _ _ _ h => h) (Or.inl ⟨by rfl, ?hy2_29⟩) ?rest2_29
      case hy2_29 => intro w; (first | (go_simp; done) | (go_simp; with_reducible rfl))
      refine wpAny_take (i := 3) (v := ?v3_30) rfl (by kernel_rfl) (by kernel_rfl) (by kernel_rfl) (fun _ _ _ h => h) (Or.inl ⟨by rfl, ?hy3_30⟩) ?rest3_30
      case hy3_30 => intro w; (first | (go_simp; done) | (go_simp; with_reducible rfl))
      refine wpAny_take (i := 5) (v := ?v5_31) rfl (by kernel_rfl) (by kernel_rfl) (by kernel_rfl) (fun _ _ _ h => h) (Or.inl ⟨by rfl, ?hy5_31⟩) ?rest5_31
      case hy5_31 => intro w; (first | (go_simp; done) | (go_simp; with_reducible rfl))
      refine wpAny_take (i := 6) (v := ?v6_32) rfl (by kernel_rfl) (by kernel_rfl) (by kernel_rfl) (fun _ _ _ h => h) (Or.inl ⟨by rfl, ?hy6_32⟩) ?rest6_32
      case hy6_32 => intro w; (first | (go_simp; done) | (go_simp; with_reducible rfl))
      refine wpAny_take (i := 7) (v := ?v7_33) rfl (by kernel_rfl) (by kernel_rfl) (by kernel_rfl) (fun _ _ _ h => h) (Or.inl ⟨by rfl, ?hy7_33⟩) ?rest7_33
      case hy7_33 => intro w; (first | (go_simp; done) | (go_simp; with_reducible rfl))
      refine wpAny_take (i := 8) (v := ?v8_34) rfl (by kernel_rfl) (by kernel_rfl) (by kernel_rfl) (fun _ _ _ h => h) (Or.inl ⟨by rfl, ?hy8_34⟩) ?rest8_34
      case hy8_34 => intro w; (first | (go_simp; done) | (go_simp; with_reducible rfl))
      refine wpAny_take (i := 9) (v := ?v9_35) rfl (by kernel_rfl) (by kernel_rfl) (by kernel_rfl) (fun _ _ _ h => h) (Or.inl ⟨by rfl, ?hy9_35⟩) ?rest9_35
      case hy9_35 => intro w; (first | (go_simp; done) | (go_simp; with_reducible rfl))
      refine wpAny_ready (rs := [4, 10]) (by kernel_rfl) (by simp) ?_
      refine AllReady.cons rfl (fun K hK => ?_) (AllReady.cons rfl (fun K hK => ?_) AllReady.nil)
      · go_simp
        refine hK _ _ ?_
        clear hK K
        refine wpAny_ready (rs := [10]) (by kernel_rfl) (by simp) ?_
        refine AllReady.cons rfl (fun K hK => ?_) AllReady.nil
        go_simp
        refine hK _ _ ?_
        clear hK K
        have HMa : Hid ((wr.alloc (.cells #[.int .u8 (IntKind.u8.wrap (x / 65536))] 5 (0, 0))).drew.heap[M]? = some (.cells #[.slice A l.length c, pv, .bool o.2] 86 (0, 0))) := lhid ((Below.heap_alloc wr (.cells #[.int .u8 (IntKind.u8.wrap (x / 65536))] 5 (0, 0)) _ (heap_lt HMr.out)).trans HMr.out)
        have HWa : Hid ((wr.alloc (.cells #[.int .u8 (IntKind.u8.wrap (x / 65536))] 5 (0, 0))).drew.ownsRow B 5 1 (.slice A l.length c) l.length (byV l)) := lhid (own_far (HWr.out.alloc (.cells #[.int .u8 (IntKind.u8.wrap (x / 65536))] 5 (0, 0))) (w' := (wr.alloc (.cells #[.int .u8 (IntKind.u8.wrap (x / 65536))] 5 (0, 0))).drew) fun _ _ => rfl)
        have HBa : Hid (Below B w (wr.alloc (.cells #[.int .u8 (IntKind.u8.wrap (x / 65536))] 5 (0, 0))).drew) := lhid ((HBr.out.alloc (Nat.le_trans hB HBr.out.size) (.cells #[.int .u8 (IntKind.u8.wrap (x / 65536))] 5 (0, 0))).drew)
        have HSa : Hid (Stay tW w (wr.alloc (.cells #[.int .u8 (IntKind.u8.wrap (x / 65536))] 5 (0, 0))).drew) := lhid ((HSr.out.alloc (.cells #[.int .u8 (IntKind.u8.wrap (x / 65536))] 5 (0, 0))).drew)
        have HNa : Hid ((wr.alloc (.cells #[.int .u8 (IntKind.u8.wrap (x / 65536))] 5 (0, 0))).drew.heap[wr.heap.size]? = some (.cells #[.int .u8 (IntKind.u8.wrap (x / 65536))] 5 (0, 0))) := lhid (heap_alloc_new wr (.cells #[.int .u8 (IntKind.u8.wrap (x / 65536))] 5 (0, 0)))
        have m0a := heap_cell (i := 0) HMa.out rfl
        refine wpAny_ready (rs := [11]) (by kernel_rfl) (by simp) ?_
        refine AllReady.cons rfl (fun K hK => ?_) AllReady.nil
        refine step_append_lies _ rfl (.tmp 17) (.tmp 23) 22 rfl B 5 i0 (.int .u8 0) 1 1 Tryz.underlying22 hi0 hz0 hz1 hz2 rfl (by decide) (.slice A l.length c) l.length (byV l) rfl HWa.out _ 1 _ [.int .u8 (IntKind.u8.wrap (x / 65536))] rfl rfl (World.news_of_block HNa.out) H1C.out (by decide) h63 hby (Nat.le_trans hB HBa.out.size) _ rfl ?_
        intro g cap w6 hown hgrow hat hlt6
        have hge := own_lt HWa.out
        have hM6 : w6.heap[M]? = some (.cells #[.slice A l.length c, pv, .bool o.2] 86 (0, 0)) := (grown_stay (Ts := [86]) hgrow HWa.out (by decide)) M _ _ _ (by simp) HMa.out
        have q6 := heap_cell (i := 0) hM6 rfl
        have z6 := heap_thaw hM6 0
        refine hK _ _ ?_
        clear hK K
        refine wpAny_take (i := 12) (v := ?v12_36) rfl (by kernel_rfl) (by kernel_rfl) (by kernel_rfl) (fun _ _ _ h => h) (Or.inl ⟨by rfl, ?hy12_36⟩) ?rest12_36
        case hy12_36 => intro w; (first | (go_simp; done) | (go_simp; with_reducible rfl))
        refine wpAny_take (i := 13) (v := ?v13_37) rfl (by kernel_rfl) (by kernel_rfl) (by kernel_rfl) (fun _ _ _ h => h) (Or.inl ⟨by rfl, ?hy13_37⟩) ?rest13_37
        case hy13_37 => intro w; (first | (go_simp; done) | (go_simp; with_reducible rfl))
        refine wpAny_ready (rs := [14]) (by kernel_rfl) (by simp) ?_
        refine AllReady.cons rfl (fun K hK => ?_) AllReady.nil
        go_simp
        refine hK _ _ ?_
        clear hK K
        refine wpAny_done (by kernel_rfl) ?_ _
        have hcap : byV (l ++ [byI x 2]) = byV l ++ [.int .u8 (IntKind.u8.wrap (x / 65536))] := by rw [byV_app]; simp only [byV, List.map_cons, List.map_nil]; rw [byI_pow x 2 65536 (by decide)]
        have HMn : Hid ((w6.setCell ⟨M, 0, none⟩ (.slice (some ⟨g, 0, none⟩) (l.length + 1) cap)).heap[M]? = some (.cells #[.slice (some ⟨g, 0, none⟩) (l.length + 1) cap, pv, .bool o.2] 86 (0, 0))) := lhid (heap_set hM6 _)
        have HWn : Hid ((w6.setCell ⟨M, 0, none⟩ (.slice (some ⟨g, 0, none⟩) (l.length + 1) cap)).ownsRow B 5 1 (.slice (some ⟨g, 0, none⟩) (l.length + 1) cap) (l.length + 1) (byV (l ++ [byI x 2]))) := lhid (by rw [hcap]; exact own_stay hown ((Stay.refl [5] w6).set (p := ⟨M, 0, none⟩) hM6 (by decide) _) (by simp))
        have HBn : Hid (Below B w (w6.setCell ⟨M, 0, none⟩ (.slice (some ⟨g, 0, none⟩) (l.length + 1) cap))) := lhid ((HBa.out.trans (grownBelow hgrow hge (Nat.le_trans hB HBa.out.size))).setCell (p := ⟨M, 0, none⟩) hBM _)
        have HSn : Hid (Stay tW w (w6.setCell ⟨M, 0, none⟩ (.slice (some ⟨g, 0, none⟩) (l.length + 1) cap))) := lhid ((HSa.out.trans (grown_stay hgrow HWa.out (by decide))).set (p := ⟨M, 0, none⟩) hM6 (by decide) _)
        clear hown hgrow hat hge hlt6 hM6 q6 z6 hcap
        go_wp2
        go_roundw
        case rel =>
          have hlen : (l ++ [byI x 2]).length = l.length + 1 := by simp
          refine ⟨2, l ++ [byI x 2], some ⟨g, 0, none⟩, cap, by simp, by omega, by rw [hlen]; omega, lhid (by rw [hlen]; exact HMn.out), lhid (by rw [hlen]; exact HWn.out), HBn, HSn, lhid ?_⟩
          rw [← HE.out, beW, List.append_assoc]
          rfl
        case measure => simp [intOf]
      · go_simp
        refine hK _ _ ?_
        clear hK K
        have HMa : Hid ((wr.alloc (.cells #[.int .u8 (IntKind.u8.wrap (x / 65536))] 5 (0, 0))).drew.heap[M]? = some (.cells #[.slice A l.length c, pv, .bool o.2] 86 (0, 0))) := lhid ((Below.heap_alloc wr (.cells #[.int .u8 (IntKind.u8.wrap (x / 65536))] 5 (0, 0)) _ (heap_lt HMr.out)).trans HMr.out)
        have HWa : Hid ((wr.alloc (.cells #[.int .u8 (IntKind.u8.wrap (x / 65536))] 5 (0, 0))).drew.ownsRow B 5 1 (.slice A l.length c) l.length (byV l)) := lhid (own_far (HWr.out.alloc (.cells #[.int .u8 (IntKind.u8.wrap (x / 65536))] 5 (0, 0))) (w' := (wr.alloc (.cells #[.int .u8 (IntKind.u8.wrap (x / 65536))] 5 (0, 0))).drew) fun _ _ => rfl)
        have HBa : Hid (Below B w (wr.alloc (.cells #[.int .u8 (IntKind.u8.wrap (x / 65536))] 5 (0, 0))).drew) := lhid ((HBr.out.alloc (Nat.le_trans hB HBr.out.size) (.cells #[.int .u8 (IntKind.u8.wrap (x / 65536))] 5 (0, 0))).drew)
        have HSa : Hid (Stay tW w (wr.alloc (.cells #[.int .u8 (IntKind.u8.wrap (x / 65536))] 5 (0, 0))).drew) := lhid ((HSr.out.alloc (.cells #[.int .u8 (IntKind.u8.wrap (x / 65536))] 5 (0, 0))).drew)
        have HNa : Hid ((wr.alloc (.cells #[.int .u8 (IntKind.u8.wrap (x / 65536))] 5 (0, 0))).drew.heap[wr.heap.size]? = some (.cells #[.int .u8 (IntKind.u8.wrap (x / 65536))] 5 (0, 0))) := lhid (heap_alloc_new wr (.cells #[.int .u8 (IntKind.u8.wrap (x / 65536))] 5 (0, 0)))
        have m0a := heap_cell (i := 0) HMa.out rfl
        refine wpAny_ready (rs := [4]) (by kernel_rfl) (by simp) ?_
        refine AllReady.cons rfl (fun K hK => ?_) AllReady.nil
        go_simp
        refine hK _ _ ?_
        clear hK K
        refine wpAny_ready (rs := [11]) (by kernel_rfl) (by simp) ?_
        refine AllReady.cons rfl (fun K hK => ?_) AllReady.nil
        refine step_append_lies _ rfl (.tmp 17) (.tmp 23) 22 rfl B 5 i0 (.int .u8 0) 1 1 Tryz.underlying22 hi0 hz0 hz1 hz2 rfl (by decide) (.slice A l.length c) l.length (byV l) rfl HWa.out _ 1 _ [.int .u8 (IntKind.u8.wrap (x / 65536))] rfl rfl (World.news_of_block HNa.out) H1C.out (by decide) h63 hby (Nat.le_trans hB HBa.out.size) _ rfl ?_
        intro g cap w6 hown hgrow hat hlt6
        have hge := own_lt HWa.out
        have hM6 : w6.heap[M]? = some (.cells #[.slice A l.length c, pv, .bool o.2] 86 (0, 0)) := (grown_stay (Ts := [86]) hgrow HWa.out (by decide)) M _ _ _ (by simp) HMa.out
        have q6 := heap_cell (i := 0) hM6 rfl
        have z6 := heap_thaw hM6 0
        refine hK _ _ ?_
        clear hK K
        refine wpAny_take (i := 12) (v := ?v12_38) rfl (by kernel_rfl) (by kernel_rfl) (by kernel_rfl) (fun _ _ _ h => h) (Or.inl ⟨by rfl, ?hy12_38⟩) ?rest12_38
        case hy12_38 => intro w; (first | (go_simp; done) | (go_simp; with_reducible rfl))
        refine wpAny_take (i := 13) (v := ?v13_39) rfl (by kernel_rfl) (by kernel_rfl) (by kernel_rfl) (fun _ _ _ h => h) (Or.inl ⟨by rfl, ?hy13_39⟩) ?rest13_39
        case hy13_39 => intro w; (first | (go_simp; done) | (go_simp; with_reducible rfl))
        refine wpAny_ready (rs := [14]) (by kernel_rfl) (by simp) ?_
        refine AllReady.cons rfl (fun K hK => ?_) AllReady.nil
        go_simp
        refine hK _ _ ?_
        clear hK K
        refine wpAny_done (by kernel_rfl) ?_ _
        have hcap : byV (l ++ [byI x 2]) = byV l ++ [.int .u8 (IntKind.u8.wrap (x / 65536))] := by rw [byV_app]; simp only [byV, List.map_cons, List.map_nil]; rw [byI_pow x 2 65536 (by decide)]
        have HMn : Hid ((w6.setCell ⟨M, 0, none⟩ (.slice (some ⟨g, 0, none⟩) (l.length + 1) cap)).heap[M]? = some (.cells #[.slice (some ⟨g, 0, none⟩) (l.length + 1) cap, pv, .bool o.2] 86 (0, 0))) := lhid (heap_set hM6 _)
        have HWn : Hid ((w6.setCell ⟨M, 0, none⟩ (.slice (some ⟨g, 0, none⟩) (l.length + 1) cap)).ownsRow B 5 1 (.slice (some ⟨g, 0, none⟩) (l.length + 1) cap) (l.length + 1) (byV (l ++ [byI x 2]))) := lhid (by rw [hcap]; exact own_stay hown ((Stay.refl [5] w6).set (p := ⟨M, 0, none⟩) hM6 (by decide) _) (by simp))
        have HBn : Hid (Below B w (w6.setCell ⟨M, 0, none⟩ (.slice (some ⟨g, 0, none⟩) (l.length + 1) cap))) := lhid ((HBa.out.trans (grownBelow hgrow hge (Nat.le_trans hB HBa.out.size))).setCell (p := ⟨M, 0, none⟩) hBM _)
        have HSn : Hid (Stay tW w (w6.setCell ⟨M, 0, none⟩ (.slice (some ⟨g, 0, none⟩) (l.length + 1) cap))) := lhid ((HSa.out.trans (grown_stay hgrow HWa.out (by decide))).set (p := ⟨M, 0, none⟩) hM6 (by decide) _)
        clear hown hgrow hat hge hlt6 hM6 q6 z6 hcap
        go_wp2
        go_roundw
        case rel =>
          have hlen : (l ++ [byI x 2]).length = l.length + 1 := by simp
          refine ⟨2, l ++ [byI x 2], some ⟨g, 0, none⟩, cap, by simp, by omega, by rw [hlen]; omega, lhid (by rw [hlen]; exact HMn.out), lhid (by rw [hlen]; exact HWn.out), HBn, HSn, lhid ?_⟩
          rw [← HE.out, beW, List.append_assoc]
          rfl
        case measure => simp [intOf]
    · have wl : IntKind.i64.wrap 24 = 24 := rfl
      have m0 := heap_cell (i := 0) HMr.out rfl
      have mz := heap_thaw HMr.out 0
      have h63 : l.length + 1 ≤ maxLen := by unfold maxLen; omega
      have hby : (l.length + 1) * 1 ≤ 140737488355328 := by omega
      have H1C : Hid (∀ u ∈ ([.int .u8 (IntKind.u8.wrap (x / 16777216))] : List Value), u.oneCell' = true) := lhid (by intro u hu; simp at hu; subst hu; rfl)
      go_upto_region 3 with fail
      refine wp_region_any (by kernel_rfl) ?_
      try (change wpAny _ _ _ _ _ _ _ (World.drew _))
      refine wpAny_take (i := 0) (v := ?v0_40) rfl (by kernel_rfl) (by kernel_rfl) (by kernel_rfl) (fun _ _ _ h => h) (Or.inl ⟨by rfl, ?hy0_40⟩) ?rest0_40
      case hy0_40 => intro w; (first | (go_simp; done) | (go_simp; with_reducible rfl))
      refine wpAny_take (i := 1) (v := ?v1_41) rfl (by kernel_rfl) (by kernel_rfl) (by kernel_rfl) (fun _ _ _ h => h) (Or.inl ⟨by rfl, ?hy1_41⟩) ?rest1_41
      case hy1_41 => intro w; (first | (go_simp; done) | (go_simp; with_reducible rfl))
      refine wpAny_take (i := 2) (v := ?v2_42) rfl (by kernel_rfl) (by kernel_rfl) (by kernel_rfl) (fun _ _ _ h => h) (Or.inl ⟨by rfl, ?hy2_42⟩) ?rest2_42
      case hy2_42 => intro w; (first | (go_simp; done) | (go_simp; with_reducible rfl))
      refine wpAny_take (i := 3) (v := ?v3_43) rfl (by kernel_rfl) (by kernel_rfl) (by kernel_rfl) (fun _ _ _ h => h) (Or.inl ⟨by rfl, ?hy3_43⟩) ?rest3_43
      case hy3_43 => intro w; (first | (go_simp; done) | (go_simp; with_reducible rfl))
      refine wpAny_take (i := 5) (v := ?v5_44) rfl (by kernel_rfl) (by kernel_rfl) (by kernel_rfl) (fun _ _ _ h => h) (Or.inl ⟨by rfl, ?hy5_44⟩) ?rest5_44
      case hy5_44 => intro w; (first | (go_simp; done) | (go_simp; with_reducible rfl))
      refine wpAny_take (i := 6) (v := ?v6_45) rfl (by kernel_rfl) (by kernel_rfl) (by kernel_rfl) (fun _ _ _ h => h) (Or.inl ⟨by rfl, ?hy6_45⟩) ?rest6_45
      case hy6_45 => intro w; (first | (go_simp; done) | (go_simp; with_reducible rfl))
      refine wpAny_take (i := 7) (v := ?v7_46) rfl (by kernel_rfl) (by kernel_rfl) (by kernel_rfl) (fun _ _ _ h => h) (Or.inl ⟨by rfl, ?hy7_46⟩) ?rest7_46
      case hy7_46 => intro w; (first | (go_simp; done) | (go_simp; with_reducible rfl))
      refine wpAny_take (i := 8) (v := ?v8_47) rfl (by kernel_rfl) (by kernel_rfl) (by kernel_rfl) (fun _ _ _ h => h) (Or.inl ⟨by rfl, ?hy8_47⟩) ?rest8_47
      case hy8_47 => intro w; (first | (go_simp; done) | (go_simp; with_reducible rfl))
      refine wpAny_take (i := 9) (v := ?v9_48) rfl (by kernel_rfl) (by kernel_rfl) (by kernel_rfl) (fun _ _ _ h => h) (Or.inl ⟨by rfl, ?hy9_48⟩) ?rest9_48
      case hy9_48 => intro w; (first | (go_simp; done) | (go_simp; with_reducible rfl))
      refine wpAny_ready (rs := [4, 10]) (by kernel_rfl) (by simp) ?_
      refine AllReady.cons rfl (fun K hK => ?_) (AllReady.cons rfl (fun K hK => ?_) AllReady.nil)
      · go_simp
        refine hK _ _ ?_
        clear hK K
        refine wpAny_ready (rs := [10]) (by kernel_rfl) (by simp) ?_
        refine AllReady.cons rfl (fun K hK => ?_) AllReady.nil
        go_simp
        refine hK _ _ ?_
        clear hK K
        have HMa : Hid ((wr.alloc (.cells #[.int .u8 (IntKind.u8.wrap (x / 16777216))] 5 (0, 0))).drew.heap[M]? = some (.cells #[.slice A l.length c, pv, .bool o.2] 86 (0, 0))) := lhid ((Below.heap_alloc wr (.cells #[.int .u8 (IntKind.u8.wrap (x / 16777216))] 5 (0, 0)) _ (heap_lt HMr.out)).trans HMr.out)
        have HWa : Hid ((wr.alloc (.cells #[.int .u8 (IntKind.u8.wrap (x / 16777216))] 5 (0, 0))).drew.ownsRow B 5 1 (.slice A l.length c) l.length (byV l)) := lhid (own_far (HWr.out.alloc (.cells #[.int .u8 (IntKind.u8.wrap (x / 16777216))] 5 (0, 0))) (w' := (wr.alloc (.cells #[.int .u8 (IntKind.u8.wrap (x / 16777216))] 5 (0, 0))).drew) fun _ _ => rfl)
        have HBa : Hid (Below B w (wr.alloc (.cells #[.int .u8 (IntKind.u8.wrap (x / 16777216))] 5 (0, 0))).drew) := lhid ((HBr.out.alloc (Nat.le_trans hB HBr.out.size) (.cells #[.int .u8 (IntKind.u8.wrap (x / 16777216))] 5 (0, 0))).drew)
        have HSa : Hid (Stay tW w (wr.alloc (.cells #[.int .u8 (IntKind.u8.wrap (x / 16777216))] 5 (0, 0))).drew) := lhid ((HSr.out.alloc (.cells #[.int .u8 (IntKind.u8.wrap (x / 16777216))] 5 (0, 0))).drew)
        have HNa : Hid ((wr.alloc (.cells #[.int .u8 (IntKind.u8.wrap (x / 16777216))] 5 (0, 0))).drew.heap[wr.heap.size]? = some (.cells #[.int .u8 (IntKind.u8.wrap (x / 16777216))] 5 (0, 0))) := lhid (heap_alloc_new wr (.cells #[.int .u8 (IntKind.u8.wrap (x / 16777216))] 5 (0, 0)))
        have m0a := heap_cell (i := 0) HMa.out rfl
        refine wpAny_ready (rs := [11]) (by kernel_rfl) (by simp) ?_
        refine AllReady.cons rfl (fun K hK => ?_) AllReady.nil
        refine step_append_lies _ rfl (.tmp 17) (.tmp 23) 22 rfl B 5 i0 (.int .u8 0) 1 1 Tryz.underlying22 hi0 hz0 hz1 hz2 rfl (by decide) (.slice A l.length c) l.length (byV l) rfl HWa.out _ 1 _ [.int .u8 (IntKind.u8.wrap (x / 16777216))] rfl rfl (World.news_of_block HNa.out) H1C.out (by decide) h63 hby (Nat.le_trans hB HBa.out.size) _ rfl ?_
        intro g cap w6 hown hgrow hat hlt6
        have hge := own_lt HWa.out
        have hM6 : w6.heap[M]? = some (.cells #[.slice A l.length c, pv, .bool o.2] 86 (0, 0)) := (grown_stay (Ts := [86]) hgrow HWa.out (by decide)) M _ _ _ (by simp) HMa.out
        have q6 := heap_cell (i := 0) hM6 rfl
        have z6 := heap_thaw hM6 0
        refine hK _ _ ?_
        clear hK K
        refine wpAny_take (i := 12) (v := ?v12_49) rfl (by kernel_rfl) (by kernel_rfl) (by kernel_rfl) (fun _ _ _ h => h) (Or.inl ⟨by rfl, ?hy12_49⟩) ?rest12_49
        case hy12_49 => intro w; (first | (go_simp; done) | (go_simp; with_reducible rfl))
        refine wpAny_take (i := 13) (v := ?v13_50) rfl (by kernel_rfl) (by kernel_rfl) (by kernel_rfl) (fun _ _ _ h => h) (Or.inl ⟨by rfl, ?hy13_50⟩) ?rest13_50
        case hy13_50 => intro w; (first | (go_simp; done) | (go_simp; with_reducible rfl))
        refine wpAny_ready (rs := [14]) (by kernel_rfl) (by simp) ?_
        refine AllReady.cons rfl (fun K hK => ?_) AllReady.nil
        go_simp
        refine hK _ _ ?_
        clear hK K
        refine wpAny_done (by kernel_rfl) ?_ _
        have hcap : byV (l ++ [byI x 3]) = byV l ++ [.int .u8 (IntKind.u8.wrap (x / 16777216))] := by rw [byV_app]; simp only [byV, List.map_cons, List.map_nil]; rw [byI_pow x 3 16777216 (by decide)]
        have HMn : Hid ((w6.setCell ⟨M, 0, none⟩ (.slice (some ⟨g, 0, none⟩) (l.length + 1) cap)).heap[M]? = some (.cells #[.slice (some ⟨g, 0, none⟩) (l.length + 1) cap, pv, .bool o.2] 86 (0, 0))) := lhid (heap_set hM6 _)
        have HWn : Hid ((w6.setCell ⟨M, 0, none⟩ (.slice (some ⟨g, 0, none⟩) (l.length + 1) cap)).ownsRow B 5 1 (.slice (some ⟨g, 0, none⟩) (l.length + 1) cap) (l.length + 1) (byV (l ++ [byI x 3]))) := lhid (by rw [hcap]; exact own_stay hown ((Stay.refl [5] w6).set (p := ⟨M, 0, none⟩) hM6 (by decide) _) (by simp))
        have HBn : Hid (Below B w (w6.setCell ⟨M, 0, none⟩ (.slice (some ⟨g, 0, none⟩) (l.length + 1) cap))) := lhid ((HBa.out.trans (grownBelow hgrow hge (Nat.le_trans hB HBa.out.size))).setCell (p := ⟨M, 0, none⟩) hBM _)
        have HSn : Hid (Stay tW w (w6.setCell ⟨M, 0, none⟩ (.slice (some ⟨g, 0, none⟩) (l.length + 1) cap))) := lhid ((HSa.out.trans (grown_stay hgrow HWa.out (by decide))).set (p := ⟨M, 0, none⟩) hM6 (by decide) _)
        clear hown hgrow hat hge hlt6 hM6 q6 z6 hcap
        go_wp2
        go_roundw
        case rel =>
          have hlen : (l ++ [byI x 3]).length = l.length + 1 := by simp
          refine ⟨3, l ++ [byI x 3], some ⟨g, 0, none⟩, cap, by simp, by omega, by rw [hlen]; omega, lhid (by rw [hlen]; exact HMn.out), lhid (by rw [hlen]; exact HWn.out), HBn, HSn, lhid ?_⟩
          rw [← HE.out, beW, List.append_assoc]
          rfl
        case measure => simp [intOf]
      · go_simp
        refine hK _ _ ?_
        clear hK K
        have HMa : Hid ((wr.alloc (.cells #[.int .u8 (IntKind.u8.wrap (x / 16777216))] 5 (0, 0))).drew.heap[M]? = some (.cells #[.slice A l.length c, pv, .bool o.2] 86 (0, 0))) := lhid ((Below.heap_alloc wr (.cells #[.int .u8 (IntKind.u8.wrap (x / 16777216))] 5 (0, 0)) _ (heap_lt HMr.out)).trans HMr.out)
        have HWa : Hid ((wr.alloc (.cells #[.int .u8 (IntKind.u8.wrap (x / 16777216))] 5 (0, 0))).drew.ownsRow B 5 1 (.slice A l.length c) l.length (byV l)) := lhid (own_far (HWr.out.alloc (.cells #[.int .u8 (IntKind.u8.wrap (x / 16777216))] 5 (0, 0))) (w' := (wr.alloc (.cells #[.int .u8 (IntKind.u8.wrap (x / 16777216))] 5 (0, 0))).drew) fun _ _ => rfl)
        have HBa : Hid (Below B w (wr.alloc (.cells #[.int .u8 (IntKind.u8.wrap (x / 16777216))] 5 (0, 0))).drew) := lhid ((HBr.out.alloc (Nat.le_trans hB HBr.out.size) (.cells #[.int .u8 (IntKind.u8.wrap (x / 16777216))] 5 (0, 0))).drew)
        have HSa : Hid (Stay tW w (wr.alloc (.cells #[.int .u8 (IntKind.u8.wrap (x / 16777216))] 5 (0, 0))).drew) := lhid ((HSr.out.alloc (.cells #[.int .u8 (IntKind.u8.wrap (x / 16777216))] 5 (0, 0))).drew)
        have HNa : Hid ((wr.alloc (.cells #[.int .u8 (IntKind.u8.wrap (x / 16777216))] 5 (0, 0))).drew.heap[wr.heap.size]? = some (.cells #[.int .u8 (IntKind.u8.wrap (x / 16777216))] 5 (0, 0))) := lhid (heap_alloc_new wr (.cells #[.int .u8 (IntKind.u8.wrap (x / 16777216))] 5 (0, 0)))
        have m0a := heap_cell (i := 0) HMa.out rfl
        refine wpAny_ready (rs := [4]) (by kernel_rfl) (by simp) ?_
        refine AllReady.cons rfl (fun K hK => ?_) AllReady.nil
        go_simp
        refine hK _ _ ?_
        clear hK K
        refine wpAny_ready (rs := [11]) (by kernel_rfl) (by simp) ?_
        refine AllReady.cons rfl (fun K hK => ?_) AllReady.nil
        refine step_append_lies _ rfl (.tmp 17) (.tmp 23) 22 rfl B 5 i0 (.int .u8 0) 1 1 Tryz.underlying22 hi0 hz0 hz1 hz2 rfl (by decide) (.slice A l.length c) l.length (byV l) rfl HWa.out _ 1 _ [.int .u8 (IntKind.u8.wrap (x / 16777216))] rfl rfl (World.news_of_block HNa.out) H1C.out (by decide) h63 hby (Nat.le_trans hB HBa.out.size) _ rfl ?_
        intro g cap w6 hown hgrow hat hlt6
        have hge := own_lt HWa.out
        have hM6 : w6.heap[M]? = some (.cells #[.slice A l.length c, pv, .bool o.2] 86 (0, 0)) := (grown_stay (Ts := [86]) hgrow HWa.out (by decide)) M _ _ _ (by simp) HMa.out
        have q6 := heap_cell (i := 0) hM6 rfl
        have z6 := heap_thaw hM6 0
        refine hK _ _ ?_
        clear hK K
        refine wpAny_take (i := 12) (v := ?v12_51) rfl (by kernel_rfl) (by kernel_rfl) (by kernel_rfl) (fun _ _ _ h => h) (Or.inl ⟨by rfl, ?hy12_51⟩) ?rest12_51
        case hy12_51 => intro w; (first | (go_simp; done) | (go_simp; with_reducible rfl))
        refine wpAny_take (i := 13) (v := ?v13_52) rfl (by kernel_rfl) (by kernel_rfl) (by kernel_rfl) (fun _ _ _ h => h) (Or.inl ⟨by rfl, ?hy13_52⟩) ?rest13_52
        case hy13_52 => intro w; (first | (go_simp; done) | (go_simp; with_reducible rfl))
        refine wpAny_ready (rs := [14]) (by kernel_rfl) (by simp) ?_
        refine AllReady.cons rfl (fun K hK => ?_) AllReady.nil
        go_simp
        refine hK _ _ ?_
        clear hK K
        refine wpAny_done (by kernel_rfl) ?_ _
        have hcap : byV (l ++ [byI x 3]) = byV l ++ [.int .u8 (IntKind.u8.wrap (x / 16777216))] := by rw [byV_app]; simp only [byV, List.map_cons, List.map_nil]; rw [byI_pow x 3 16777216 (by decide)]
        have HMn : Hid ((w6.setCell ⟨M, 0, none⟩ (.slice (some ⟨g, 0, none⟩) (l.length + 1) cap)).heap[M]? = some (.cells #[.slice (some ⟨g, 0, none⟩) (l.length + 1) cap, pv, .bool o.2] 86 (0, 0))) := lhid (heap_set hM6 _)
        have HWn : Hid ((w6.setCell ⟨M, 0, none⟩ (.slice (some ⟨g, 0, none⟩) (l.length + 1) cap)).ownsRow B 5 1 (.slice (some ⟨g, 0, none⟩) (l.length + 1) cap) (l.length + 1) (byV (l ++ [byI x 3]))) := lhid (by rw [hcap]; exact own_stay hown ((Stay.refl [5] w6).set (p := ⟨M, 0, none⟩) hM6 (by decide) _) (by simp))
        have HBn : Hid (Below B w (w6.setCell ⟨M, 0, none⟩ (.slice (some ⟨g, 0, none⟩) (l.length + 1) cap))) := lhid ((HBa.out.trans (grownBelow hgrow hge (Nat.le_trans hB HBa.out.size))).setCell (p := ⟨M, 0, none⟩) hBM _)
        have HSn : Hid (Stay tW w (w6.setCell ⟨M, 0, none⟩ (.slice (some ⟨g, 0, none⟩) (l.length + 1) cap))) := lhid ((HSa.out.trans (grown_stay hgrow HWa.out (by decide))).set (p := ⟨M, 0, none⟩) hM6 (by decide) _)
        clear hown hgrow hat hge hlt6 hM6 q6 z6 hcap
        go_wp2
        go_roundw
        case rel =>
          have hlen : (l ++ [byI x 3]).length = l.length + 1 := by simp
          refine ⟨3, l ++ [byI x 3], some ⟨g, 0, none⟩, cap, by simp, by omega, by rw [hlen]; omega, lhid (by rw [hlen]; exact HMn.out), lhid (by rw [hlen]; exact HWn.out), HBn, HSn, lhid ?_⟩
          rw [← HE.out, beW, List.append_assoc]
          rfl
        case measure => simp [intOf]
    · have wl : IntKind.i64.wrap 32 = 32 := rfl
      have m0 := heap_cell (i := 0) HMr.out rfl
      have mz := heap_thaw HMr.out 0
      have h63 : l.length + 1 ≤ maxLen := by unfold maxLen; omega
      have hby : (l.length + 1) * 1 ≤ 140737488355328 := by omega
      have H1C : Hid (∀ u ∈ ([.int .u8 (IntKind.u8.wrap (x / 4294967296))] : List Value), u.oneCell' = true) := lhid (by intro u hu; simp at hu; subst hu; rfl)
      go_upto_region 3 with fail
      refine wp_region_any (by kernel_rfl) ?_
      try (change wpAny _ _ _ _ _ _ _ (World.drew _))
      refine wpAny_take (i := 0) (v := ?v0_53) rfl (by kernel_rfl) (by kernel_rfl) (by kernel_rfl) (fun _ _ _ h => h) (Or.inl ⟨by rfl, ?hy0_53⟩) ?rest0_53
      case hy0_53 => intro w; (first | (go_simp; done) | (go_simp; with_reducible rfl))
      refine wpAny_take (i := 1) (v := ?v1_54) rfl (by kernel_rfl) (by kernel_rfl) (by kernel_rfl) (fun _ _ _ h => h) (Or.inl ⟨by rfl, ?hy1_54⟩) ?rest1_54
      case hy1_54 => intro w; (first | (go_simp; done) | (go_simp; with_reducible rfl))
      refine wpAny_take (i := 2) (v := ?v2_55) rfl (by kernel_rfl) (by kernel_rfl) (by kernel_rfl) (fun _ _ _ h => h) (Or.inl ⟨by rfl, ?hy2_55⟩) ?rest2_55
      case hy2_55 => intro w; (first | (go_simp; done) | (go_simp; with_reducible rfl))
      refine wpAny_take (i := 3) (v := ?v3_56) rfl (by kernel_rfl) (by kernel_rfl) (by kernel_rfl) (fun _ _ _ h => h) (Or.inl ⟨by rfl, ?hy3_56⟩) ?rest3_56
      case hy3_56 => intro w; (first | (go_simp; done) | (go_simp; with_reducible rfl))
      refine wpAny_take (i := 5) (v := ?v5_57) rfl (by kernel_rfl) (by kernel_rfl) (by kernel_rfl) (fun _ _ _ h => h) (Or.inl ⟨by rfl, ?hy5_57⟩) ?rest5_57
      case hy5_57 => intro w; (first | (go_simp; done) | (go_simp; with_reducible rfl))
      refine wpAny_take (i := 6) (v := ?v6_58) rfl (by kernel_rfl) (by kernel_rfl) (by kernel_rfl) (fun _ _ _ h => h) (Or.inl ⟨by rfl, ?hy6_58⟩) ?rest6_58
      case hy6_58 => intro w; (first | (go_simp; done) | (go_simp; with_reducible rfl))
      refine wpAny_take (i := 7) (v := ?v7_59) rfl (by kernel_rfl) (by kernel_rfl) (by kernel_rfl) (fun _ _ _ h => h) (Or.inl ⟨by rfl, ?hy7_59⟩) ?rest7_59
      case hy7_59 => intro w; (first | (go_simp; done) | (go_simp; with_reducible rfl))
      refine wpAny_take (i := 8) (v := ?v8_60) rfl (by kernel_rfl) (by kernel_rfl) (by kernel_rfl) (fun _ _ _ h => h) (Or.inl ⟨by rfl, ?hy8_60⟩) ?rest8_60
      case hy8_60 => intro w; (first | (go_simp; done) | (go_simp; with_reducible rfl))
      refine wpAny_take (i := 9) (v := ?v9_61) rfl (by kernel_rfl) (by kernel_rfl) (by kernel_rfl) (fun _ _ _ h => h) (Or.inl ⟨by rfl, ?hy9_61⟩) ?rest9_61
      case hy9_61 => intro w; (first | (go_simp; done) | (go_simp; with_reducible rfl))
      refine wpAny_ready (rs := [4, 10]) (by kernel_rfl) (by simp) ?_
      refine AllReady.cons rfl (fun K hK => ?_) (AllReady.cons rfl (fun K hK => ?_) AllReady.nil)
      · go_simp
        refine hK _ _ ?_
        clear hK K
        refine wpAny_ready (rs := [10]) (by kernel_rfl) (by simp) ?_
        refine AllReady.cons rfl (fun K hK => ?_) AllReady.nil
        go_simp
        refine hK _ _ ?_
        clear hK K
        have HMa : Hid ((wr.alloc (.cells #[.int .u8 (IntKind.u8.wrap (x / 4294967296))] 5 (0, 0))).drew.heap[M]? = some (.cells #[.slice A l.length c, pv, .bool o.2] 86 (0, 0))) := lhid ((Below.heap_alloc wr (.cells #[.int .u8 (IntKind.u8.wrap (x / 4294967296))] 5 (0, 0)) _ (heap_lt HMr.out)).trans HMr.out)
        have HWa : Hid ((wr.alloc (.cells #[.int .u8 (IntKind.u8.wrap (x / 4294967296))] 5 (0, 0))).drew.ownsRow B 5 1 (.slice A l.length c) l.length (byV l)) := lhid (own_far (HWr.out.alloc (.cells #[.int .u8 (IntKind.u8.wrap (x / 4294967296))] 5 (0, 0))) (w' := (wr.alloc (.cells #[.int .u8 (IntKind.u8.wrap (x / 4294967296))] 5 (0, 0))).drew) fun _ _ => rfl)
        have HBa : Hid (Below B w (wr.alloc (.cells #[.int .u8 (IntKind.u8.wrap (x / 4294967296))] 5 (0, 0))).drew) := lhid ((HBr.out.alloc (Nat.le_trans hB HBr.out.size) (.cells #[.int .u8 (IntKind.u8.wrap (x / 4294967296))] 5 (0, 0))).drew)
        have HSa : Hid (Stay tW w (wr.alloc (.cells #[.int .u8 (IntKind.u8.wrap (x / 4294967296))] 5 (0, 0))).drew) := lhid ((HSr.out.alloc (.cells #[.int .u8 (IntKind.u8.wrap (x / 4294967296))] 5 (0, 0))).drew)
        have HNa : Hid ((wr.alloc (.cells #[.int .u8 (IntKind.u8.wrap (x / 4294967296))] 5 (0, 0))).drew.heap[wr.heap.size]? = some (.cells #[.int .u8 (IntKind.u8.wrap (x / 4294967296))] 5 (0, 0))) := lhid (heap_alloc_new wr (.cells #[.int .u8 (IntKind.u8.wrap (x / 4294967296))] 5 (0, 0)))
        have m0a := heap_cell (i := 0) HMa.out rfl
        refine wpAny_ready (rs := [11]) (by kernel_rfl) (by simp) ?_
        refine AllReady.cons rfl (fun K hK => ?_) AllReady.nil
        refine step_append_lies _ rfl (.tmp 17) (.tmp 23) 22 rfl B 5 i0 (.int .u8 0) 1 1 Tryz.underlying22 hi0 hz0 hz1 hz2 rfl (by decide) (.slice A l.length c) l.length (byV l) rfl HWa.out _ 1 _ [.int .u8 (IntKind.u8.wrap (x / 4294967296))] rfl rfl (World.news_of_block HNa.out) H1C.out (by decide) h63 hby (Nat.le_trans hB HBa.out.size) _ rfl ?_
        intro g cap w6 hown hgrow hat hlt6
        have hge := own_lt HWa.out
        have hM6 : w6.heap[M]? = some (.cells #[.slice A l.length c, pv, .bool o.2] 86 (0, 0)) := (grown_stay (Ts := [86]) hgrow HWa.out (by decide)) M _ _ _ (by simp) HMa.out
        have q6 := heap_cell (i := 0) hM6 rfl
        have z6 := heap_thaw hM6 0
        refine hK _ _ ?_
        clear hK K
        refine wpAny_take (i := 12) (v := ?v12_62) rfl (by kernel_rfl) (by kernel_rfl) (by kernel_rfl) (fun _ _ _ h => h) (Or.inl ⟨by rfl, ?hy12_62⟩) ?rest12_62
        case hy12_62 => intro w; (first | (go_simp; done) | (go_simp; with_reducible rfl))
        refine wpAny_take (i := 13) (v := ?v13_63) rfl (by kernel_rfl) (by kernel_rfl) (by kernel_rfl) (fun _ _ _ h => h) (Or.inl ⟨by rfl, ?hy13_63⟩) ?rest13_63
        case hy13_63 => intro w; (first | (go_simp; done) | (go_simp; with_reducible rfl))
        refine wpAny_ready (rs := [14]) (by kernel_rfl) (by simp) ?_
        refine AllReady.cons rfl (fun K hK => ?_) AllReady.nil
        go_simp
        refine hK _ _ ?_
        clear hK K
        refine wpAny_done (by kernel_rfl) ?_ _
        have hcap : byV (l ++ [byI x 4]) = byV l ++ [.int .u8 (IntKind.u8.wrap (x / 4294967296))] := by rw [byV_app]; simp only [byV, List.map_cons, List.map_nil]; rw [byI_pow x 4 4294967296 (by decide)]
        have HMn : Hid ((w6.setCell ⟨M, 0, none⟩ (.slice (some ⟨g, 0, none⟩) (l.length + 1) cap)).heap[M]? = some (.cells #[.slice (some ⟨g, 0, none⟩) (l.length + 1) cap, pv, .bool o.2] 86 (0, 0))) := lhid (heap_set hM6 _)
        have HWn : Hid ((w6.setCell ⟨M, 0, none⟩ (.slice (some ⟨g, 0, none⟩) (l.length + 1) cap)).ownsRow B 5 1 (.slice (some ⟨g, 0, none⟩) (l.length + 1) cap) (l.length + 1) (byV (l ++ [byI x 4]))) := lhid (by rw [hcap]; exact own_stay hown ((Stay.refl [5] w6).set (p := ⟨M, 0, none⟩) hM6 (by decide) _) (by simp))
        have HBn : Hid (Below B w (w6.setCell ⟨M, 0, none⟩ (.slice (some ⟨g, 0, none⟩) (l.length + 1) cap))) := lhid ((HBa.out.trans (grownBelow hgrow hge (Nat.le_trans hB HBa.out.size))).setCell (p := ⟨M, 0, none⟩) hBM _)
        have HSn : Hid (Stay tW w (w6.setCell ⟨M, 0, none⟩ (.slice (some ⟨g, 0, none⟩) (l.length + 1) cap))) := lhid ((HSa.out.trans (grown_stay hgrow HWa.out (by decide))).set (p := ⟨M, 0, none⟩) hM6 (by decide) _)
        clear hown hgrow hat hge hlt6 hM6 q6 z6 hcap
        go_wp2
        go_roundw
        case rel =>
          have hlen : (l ++ [byI x 4]).length = l.length + 1 := by simp
          refine ⟨4, l ++ [byI x 4], some ⟨g, 0, none⟩, cap, by simp, by omega, by rw [hlen]; omega, lhid (by rw [hlen]; exact HMn.out), lhid (by rw [hlen]; exact HWn.out), HBn, HSn, lhid ?_⟩
          rw [← HE.out, beW, List.append_assoc]
          rfl
        case measure => simp [intOf]
      · go_simp
        refine hK _ _ ?_
        clear hK K
        have HMa : Hid ((wr.alloc (.cells #[.int .u8 (IntKind.u8.wrap (x / 4294967296))] 5 (0, 0))).drew.heap[M]? = some (.cells #[.slice A l.length c, pv, .bool o.2] 86 (0, 0))) := lhid ((Below.heap_alloc wr (.cells #[.int .u8 (IntKind.u8.wrap (x / 4294967296))] 5 (0, 0)) _ (heap_lt HMr.out)).trans HMr.out)
        have HWa : Hid ((wr.alloc (.cells #[.int .u8 (IntKind.u8.wrap (x / 4294967296))] 5 (0, 0))).drew.ownsRow B 5 1 (.slice A l.length c) l.length (byV l)) := lhid (own_far (HWr.out.alloc (.cells #[.int .u8 (IntKind.u8.wrap (x / 4294967296))] 5 (0, 0))) (w' := (wr.alloc (.cells #[.int .u8 (IntKind.u8.wrap (x / 4294967296))] 5 (0, 0))).drew) fun _ _ => rfl)
        have HBa : Hid (Below B w (wr.alloc (.cells #[.int .u8 (IntKind.u8.wrap (x / 4294967296))] 5 (0, 0))).drew) := lhid ((HBr.out.alloc (Nat.le_trans hB HBr.out.size) (.cells #[.int .u8 (IntKind.u8.wrap (x / 4294967296))] 5 (0, 0))).drew)
        have HSa : Hid (Stay tW w (wr.alloc (.cells #[.int .u8 (IntKind.u8.wrap (x / 4294967296))] 5 (0, 0))).drew) := lhid ((HSr.out.alloc (.cells #[.int .u8 (IntKind.u8.wrap (x / 4294967296))] 5 (0, 0))).drew)
        have HNa : Hid ((wr.alloc (.cells #[.int .u8 (IntKind.u8.wrap (x / 4294967296))] 5 (0, 0))).drew.heap[wr.heap.size]? = some (.cells #[.int .u8 (IntKind.u8.wrap (x / 4294967296))] 5 (0, 0))) := lhid (heap_alloc_new wr (.cells #[.int .u8 (IntKind.u8.wrap (x / 4294967296))] 5 (0, 0)))
        have m0a := heap_cell (i := 0) HMa.out rfl
        refine wpAny_ready (rs := [4]) (by kernel_rfl) (by simp) ?_
        refine AllReady.cons rfl (fun K hK => ?_) AllReady.nil
        go_simp
        refine hK _ _ ?_
        clear hK K
        refine wpAny_ready (rs := [11]) (by kernel_rfl) (by simp) ?_
        refine AllReady.cons rfl (fun K hK => ?_) AllReady.nil
        refine step_append_lies _ rfl (.tmp 17) (.tmp 23) 22 rfl B 5 i0 (.int .u8 0) 1 1 Tryz.underlying22 hi0 hz0 hz1 hz2 rfl (by decide) (.slice A l.length c) l.length (byV l) rfl HWa.out _ 1 _ [.int .u8 (IntKind.u8.wrap (x / 4294967296))] rfl rfl (World.news_of_block HNa.out) H1C.out (by decide) h63 hby (Nat.le_trans hB HBa.out.size) _ rfl ?_
        intro g cap w6 hown hgrow hat hlt6
        have hge := own_lt HWa.out
        have hM6 : w6.heap[M]? = some (.cells #[.slice A l.length c, pv, .bool o.2] 86 (0, 0)) := (grown_stay (Ts := [86]) hgrow HWa.out (by decide)) M _ _ _ (by simp) HMa.out
        have q6 := heap_cell (i := 0) hM6 rfl
        have z6 := heap_thaw hM6 0
        refine hK _ _ ?_
        clear hK K
        refine wpAny_take (i := 12) (v := ?v12_64) rfl (by kernel_rfl) (by kernel_rfl) (by kernel_rfl) (fun _ _ _ h => h) (Or.inl ⟨by rfl, ?hy12_64⟩) ?rest12_64
        case hy12_64 => intro w; (first | (go_simp; done) | (go_simp; with_reducible rfl))
        refine wpAny_take (i := 13) (v := ?v13_65) rfl (by kernel_rfl) (by kernel_rfl) (by kernel_rfl) (fun _ _ _ h => h) (Or.inl ⟨by rfl, ?hy13_65⟩) ?rest13_65
        case hy13_65 => intro w; (first | (go_simp; done) | (go_simp; with_reducible rfl))
        refine wpAny_ready (rs := [14]) (by kernel_rfl) (by simp) ?_
        refine AllReady.cons rfl (fun K hK => ?_) AllReady.nil
        go_simp
        refine hK _ _ ?_
        clear hK K
        refine wpAny_done (by kernel_rfl) ?_ _
        have hcap : byV (l ++ [byI x 4]) = byV l ++ [.int .u8 (IntKind.u8.wrap (x / 4294967296))] := by rw [byV_app]; simp only [byV, List.map_cons, List.map_nil]; rw [byI_pow x 4 4294967296 (by decide)]
        have HMn : Hid ((w6.setCell ⟨M, 0, none⟩ (.slice (some ⟨g, 0, none⟩) (l.length + 1) cap)).heap[M]? = some (.cells #[.slice (some ⟨g, 0, none⟩) (l.length + 1) cap, pv, .bool o.2] 86 (0, 0))) := lhid (heap_set hM6 _)
        have HWn : Hid ((w6.setCell ⟨M, 0, none⟩ (.slice (some ⟨g, 0, none⟩) (l.length + 1) cap)).ownsRow B 5 1 (.slice (some ⟨g, 0, none⟩) (l.length + 1) cap) (l.length + 1) (byV (l ++ [byI x 4]))) := lhid (by rw [hcap]; exact own_stay hown ((Stay.refl [5] w6).set (p := ⟨M, 0, none⟩) hM6 (by decide) _) (by simp))
        have HBn : Hid (Below B w (w6.setCell ⟨M, 0, none⟩ (.slice (some ⟨g, 0, none⟩) (l.length + 1) cap))) := lhid ((HBa.out.trans (grownBelow hgrow hge (Nat.le_trans hB HBa.out.size))).setCell (p := ⟨M, 0, none⟩) hBM _)
        have HSn : Hid (Stay tW w (w6.setCell ⟨M, 0, none⟩ (.slice (some ⟨g, 0, none⟩) (l.length + 1) cap))) := lhid ((HSa.out.trans (grown_stay hgrow HWa.out (by decide))).set (p := ⟨M, 0, none⟩) hM6 (by decide) _)
        clear hown hgrow hat hge hlt6 hM6 q6 z6 hcap
        go_wp2
        go_roundw
        case rel =>
          have hlen : (l ++ [byI x 4]).length = l.length + 1 := by simp
          refine ⟨4, l ++ [byI x 4], some ⟨g, 0, none⟩, cap, by simp, by omega, by rw [hlen]; omega, lhid (by rw [hlen]; exact HMn.out), lhid (by rw [hlen]; exact HWn.out), HBn, HSn, lhid ?_⟩
          rw [← HE.out, beW, List.append_assoc]
          rfl
        case measure => simp [intOf]
    · have wl : IntKind.i64.wrap 40 = 40 := rfl
      have m0 := heap_cell (i := 0) HMr.out rfl
      have mz := heap_thaw HMr.out 0
      have h63 : l.length + 1 ≤ maxLen := by unfold maxLen; omega
      have hby : (l.length + 1) * 1 ≤ 140737488355328 := by omega
      have H1C : Hid (∀ u ∈ ([.int .u8 (IntKind.u8.wrap (x / 1099511627776))] : List Value), u.oneCell' = true) := lhid (by intro u hu; simp at hu; subst hu; rfl)
      go_upto_region 3 with fail
      refine wp_region_any (by kernel_rfl) ?_
      try (change wpAny _ _ _ _ _ _ _ (World.drew _))
      refine wpAny_take (i := 0) (v := ?v0_66) rfl (by kernel_rfl) (by kernel_rfl) (by kernel_rfl) (fun _ _ _ h => h) (Or.inl ⟨by rfl, ?hy0_66⟩) ?rest0_66
      case hy0_66 => intro w; (first | (go_simp; done) | (go_simp; with_reducible rfl))
      refine wpAny_take (i := 1) (v := ?v1_67) rfl (by kernel_rfl) (by kernel_rfl) (by kernel_rfl) (fun _ _ _ h => h) (Or.inl ⟨by rfl, ?hy1_67⟩) ?rest1_67
      case hy1_67 => intro w; (first | (go_simp; done) | (go_simp; with_reducible rfl))
      refine wpAny_take (i := 2) (v := ?v2_68) rfl (by kernel_rfl) (by kernel_rfl) (by kernel_rfl) (fun _ _ _ h => h) (Or.inl ⟨by rfl, ?hy2_68⟩) ?rest2_68
      case hy2_68 => intro w; (first | (go_simp; done) | (go_simp; with_reducible rfl))
      refine wpAny_take (i := 3) (v := ?v3_69) rfl (by kernel_rfl) (by kernel_rfl) (by kernel_rfl) (fun _ _ _ h => h) (Or.inl ⟨by rfl, ?hy3_69⟩) ?rest3_69
      case hy3_69 => intro w; (first | (go_simp; done) | (go_simp; with_reducible rfl))
      refine wpAny_take (i := 5) (v := ?v5_70) rfl (by kernel_rfl) (by kernel_rfl) (by kernel_rfl) (fun _ _ _ h => h) (Or.inl ⟨by rfl, ?hy5_70⟩) ?rest5_70
      case hy5_70 => intro w; (first | (go_simp; done) | (go_simp; with_reducible rfl))
      refine wpAny_take (i := 6) (v := ?v6_71) rfl (by kernel_rfl) (by kernel_rfl) (by kernel_rfl) (fun _ _ _ h => h) (Or.inl ⟨by rfl, ?hy6_71⟩) ?rest6_71
      case hy6_71 => intro w; (first | (go_simp; done) | (go_simp; with_reducible rfl))
      refine wpAny_take (i := 7) (v := ?v7_72) rfl (by kernel_rfl) (by kernel_rfl) (by kernel_rfl) (fun _ _ _ h => h) (Or.inl ⟨by rfl, ?hy7_72⟩) ?rest7_72
      case hy7_72 => intro w; (first | (go_simp; done) | (go_simp; with_reducible rfl))
      refine wpAny_take (i := 8) (v := ?v8_73) rfl (by kernel_rfl) (by kernel_rfl) (by kernel_rfl) (fun _ _ _ h => h) (Or.inl ⟨by rfl, ?hy8_73⟩) ?rest8_73
      case hy8_73 => intro w; (first | (go_simp; done) | (go_simp; with_reducible rfl))
      refine wpAny_take (i := 9) (v := ?v9_74) rfl (by kernel_rfl) (by kernel_rfl) (by kernel_rfl) (fun _ _ _ h => h) (Or.inl ⟨by rfl, ?hy9_74⟩) ?rest9_74
      case hy9_74 => intro w; (first | (go_simp; done) | (go_simp; with_reducible rfl))
      refine wpAny_ready (rs := [4, 10]) (by kernel_rfl) (by simp) ?_
      refine AllReady.cons rfl (fun K hK => ?_) (AllReady.cons rfl (fun K hK => ?_) AllReady.nil)
      · go_simp
        refine hK _ _ ?_
        clear hK K
        refine wpAny_ready (rs := [10]) (by kernel_rfl) (by simp) ?_
        refine AllReady.cons rfl (fun K hK => ?_) AllReady.nil
        go_simp
        refine hK _ _ ?_
        clear hK K
        have HMa : Hid ((wr.alloc (.cells #[.int .u8 (IntKind.u8.wrap (x / 1099511627776))] 5 (0, 0))).drew.heap[M]? = some (.cells #[.slice A l.length c, pv, .bool o.2] 86 (0, 0))) := lhid ((Below.heap_alloc wr (.cells #[.int .u8 (IntKind.u8.wrap (x / 1099511627776))] 5 (0, 0)) _ (heap_lt HMr.out)).trans HMr.out)
        have HWa : Hid ((wr.alloc (.cells #[.int .u8 (IntKind.u8.wrap (x / 1099511627776))] 5 (0, 0))).drew.ownsRow B 5 1 (.slice A l.length c) l.length (byV l)) := lhid (own_far (HWr.out.alloc (.cells #[.int .u8 (IntKind.u8.wrap (x / 1099511627776))] 5 (0, 0))) (w' := (wr.alloc (.cells #[.int .u8 (IntKind.u8.wrap (x / 1099511627776))] 5 (0, 0))).drew) fun _ _ => rfl)
        have HBa : Hid (Below B w (wr.alloc (.cells #[.int .u8 (IntKind.u8.wrap (x / 1099511627776))] 5 (0, 0))).drew) := lhid ((HBr.out.alloc (Nat.le_trans hB HBr.out.size) (.cells #[.int .u8 (IntKind.u8.wrap (x / 1099511627776))] 5 (0, 0))).drew)
        have HSa : Hid (Stay tW w (wr.alloc (.cells #[.int .u8 (IntKind.u8.wrap (x / 1099511627776))] 5 (0, 0))).drew) := lhid ((HSr.out.alloc (.cells #[.int .u8 (IntKind.u8.wrap (x / 1099511627776))] 5 (0, 0))).drew)
        have HNa : Hid ((wr.alloc (.cells #[.int .u8 (IntKind.u8.wrap (x / 1099511627776))] 5 (0, 0))).drew.heap[wr.heap.size]? = some (.cells #[.int .u8 (IntKind.u8.wrap (x / 1099511627776))] 5 (0, 0))) := lhid (heap_alloc_new wr (.cells #[.int .u8 (IntKind.u8.wrap (x / 1099511627776))] 5 (0, 0)))
        have m0a := heap_cell (i := 0) HMa.out rfl
        refine wpAny_ready (rs := [11]) (by kernel_rfl) (by simp) ?_
        refine AllReady.cons rfl (fun K hK => ?_) AllReady.nil
        refine step_append_lies _ rfl (.tmp 17) (.tmp 23) 22 rfl B 5 i0 (.int .u8 0) 1 1 Tryz.underlying22 hi0 hz0 hz1 hz2 rfl (by decide) (.slice A l.length c) l.length (byV l) rfl HWa.out _ 1 _ [.int .u8 (IntKind.u8.wrap (x / 1099511627776))] rfl rfl (World.news_of_block HNa.out) H1C.out (by decide) h63 hby (Nat.le_trans hB HBa.out.size) _ rfl ?_
        intro g cap w6 hown hgrow hat hlt6
        have hge := own_lt HWa.out
        have hM6 : w6.heap[M]? = some (.cells #[.slice A l.length c, pv, .bool o.2] 86 (0, 0)) := (grown_stay (Ts := [86]) hgrow HWa.out (by decide)) M _ _ _ (by simp) HMa.out
        have q6 := heap_cell (i := 0) hM6 rfl
        have z6 := heap_thaw hM6 0
        refine hK _ _ ?_
        clear hK K
        refine wpAny_take (i := 12) (v := ?v12_75) rfl (by kernel_rfl) (by kernel_rfl) (by kernel_rfl) (fun _ _ _ h => h) (Or.inl ⟨by rfl, ?hy12_75⟩) ?rest12_75
        case hy12_75 => intro w; (first | (go_simp; done) | (go_simp; with_reducible rfl))
        refine wpAny_take (i := 13) (v := ?v13_76) rfl (by kernel_rfl) (by kernel_rfl) (by kernel_rfl) (fun _ _ _ h => h) (Or.inl ⟨by rfl, ?hy13_76⟩) ?rest13_76
        case hy13_76 => intro w; (first | (go_simp; done) | (go_simp; with_reducible rfl))
        refine wpAny_ready (rs := [14]) (by kernel_rfl) (by simp) ?_
        refine AllReady.cons rfl (fun K hK => ?_) AllReady.nil
        go_simp
        refine hK _ _ ?_
        clear hK K
        refine wpAny_done (by kernel_rfl) ?_ _
        have hcap : byV (l ++ [byI x 5]) = byV l ++ [.int .u8 (IntKind.u8.wrap (x / 1099511627776))] := by rw [byV_app]; simp only [byV, List.map_cons, List.map_nil]; rw [byI_pow x 5 1099511627776 (by decide)]
        have HMn : Hid ((w6.setCell ⟨M, 0, none⟩ (.slice (some ⟨g, 0, none⟩) (l.length + 1) cap)).heap[M]? = some (.cells #[.slice (some ⟨g, 0, none⟩) (l.length + 1) cap, pv, .bool o.2] 86 (0, 0))) := lhid (heap_set hM6 _)
        have HWn : Hid ((w6.setCell ⟨M, 0, none⟩ (.slice (some ⟨g, 0, none⟩) (l.length + 1) cap)).ownsRow B 5 1 (.slice (some ⟨g, 0, none⟩) (l.length + 1) cap) (l.length + 1) (byV (l ++ [byI x 5]))) := lhid (by rw [hcap]; exact own_stay hown ((Stay.refl [5] w6).set (p := ⟨M, 0, none⟩) hM6 (by decide) _) (by simp))
        have HBn : Hid (Below B w (w6.setCell ⟨M, 0, none⟩ (.slice (some ⟨g, 0, none⟩) (l.length + 1) cap))) := lhid ((HBa.out.trans (grownBelow hgrow hge (Nat.le_trans hB HBa.out.size))).setCell (p := ⟨M, 0, none⟩) hBM _)
        have HSn : Hid (Stay tW w (w6.setCell ⟨M, 0, none⟩ (.slice (some ⟨g, 0, none⟩) (l.length + 1) cap))) := lhid ((HSa.out.trans (grown_stay hgrow HWa.out (by decide))).set (p := ⟨M, 0, none⟩) hM6 (by decide) _)
        clear hown hgrow hat hge hlt6 hM6 q6 z6 hcap
        go_wp2
        go_roundw
        case rel =>
          have hlen : (l ++ [byI x 5]).length = l.length + 1 := by simp
          refine ⟨5, l ++ [byI x 5], some ⟨g, 0, none⟩, cap, by simp, by omega, by rw [hlen]; omega, lhid (by rw [hlen]; exact HMn.out), lhid (by rw [hlen]; exact HWn.out), HBn, HSn, lhid ?_⟩
          rw [← HE.out, beW, List.append_assoc]
          rfl
        case measure => simp [intOf]
      · go_simp
        refine hK _ _ ?_
        clear hK K
        have HMa : Hid ((wr.alloc (.cells #[.int .u8 (IntKind.u8.wrap (x / 1099511627776))] 5 (0, 0))).drew.heap[M]? = some (.cells #[.slice A l.length c, pv, .bool o.2] 86 (0, 0))) := lhid ((Below.heap_alloc wr (.cells #[.int .u8 (IntKind.u8.wrap (x / 1099511627776))] 5 (0, 0)) _ (heap_lt HMr.out)).trans HMr.out)
        have HWa : Hid ((wr.alloc (.cells #[.int .u8 (IntKind.u8.wrap (x / 1099511627776))] 5 (0, 0))).drew.ownsRow B 5 1 (.slice A l.length c) l.length (byV l)) := lhid (own_far (HWr.out.alloc (.cells #[.int .u8 (IntKind.u8.wrap (x / 1099511627776))] 5 (0, 0))) (w' := (wr.alloc (.cells #[.int .u8 (IntKind.u8.wrap (x / 1099511627776))] 5 (0, 0))).drew) fun _ _ => rfl)
        have HBa : Hid (Below B w (wr.alloc (.cells #[.int .u8 (IntKind.u8.wrap (x / 1099511627776))] 5 (0, 0))).drew) := lhid ((HBr.out.alloc (Nat.le_trans hB HBr.out.size) (.cells #[.int .u8 (IntKind.u8.wrap (x / 1099511627776))] 5 (0, 0))).drew)
        have HSa : Hid (Stay tW w (wr.alloc (.cells #[.int .u8 (IntKind.u8.wrap (x / 1099511627776))] 5 (0, 0))).drew) := lhid ((HSr.out.alloc (.cells #[.int .u8 (IntKind.u8.wrap (x / 1099511627776))] 5 (0, 0))).drew)
        have HNa : Hid ((wr.alloc (.cells #[.int .u8 (IntKind.u8.wrap (x / 1099511627776))] 5 (0, 0))).drew.heap[wr.heap.size]? = some (.cells #[.int .u8 (IntKind.u8.wrap (x / 1099511627776))] 5 (0, 0))) := lhid (heap_alloc_new wr (.cells #[.int .u8 (IntKind.u8.wrap (x / 1099511627776))] 5 (0, 0)))
        have m0a := heap_cell (i := 0) HMa.out rfl
        refine wpAny_ready (rs := [4]) (by kernel_rfl) (by simp) ?_
        refine AllReady.cons rfl (fun K hK => ?_) AllReady.nil
        go_simp
        refine hK _ _ ?_
        clear hK K
        refine wpAny_ready (rs := [11]) (by kernel_rfl) (by simp) ?_
        refine AllReady.cons rfl (fun K hK => ?_) AllReady.nil
        refine step_append_lies _ rfl (.tmp 17) (.tmp 23) 22 rfl B 5 i0 (.int .u8 0) 1 1 Tryz.underlying22 hi0 hz0 hz1 hz2 rfl (by decide) (.slice A l.length c) l.length (byV l) rfl HWa.out _ 1 _ [.int .u8 (IntKind.u8.wrap (x / 1099511627776))] rfl rfl (World.news_of_block HNa.out) H1C.out (by decide) h63 hby (Nat.le_trans hB HBa.out.size) _ rfl ?_
        intro g cap w6 hown hgrow hat hlt6
        have hge := own_lt HWa.out
        have hM6 : w6.heap[M]? = some (.cells #[.slice A l.length c, pv, .bool o.2] 86 (0, 0)) := (grown_stay (Ts := [86]) hgrow HWa.out (by decide)) M _ _ _ (by simp) HMa.out
        have q6 := heap_cell (i := 0) hM6 rfl
        have z6 := heap_thaw hM6 0
        refine hK _ _ ?_
        clear hK K
        refine wpAny_take (i := 12) (v := ?v12_77) rfl (by kernel_rfl) (by kernel_rfl) (by kernel_rfl) (fun _ _ _ h => h) (Or.inl ⟨by rfl, ?hy12_77⟩) ?rest12_77
        case hy12_77 => intro w; (first | (go_simp; done) | (go_simp; with_reducible rfl))
        refine wpAny_take (i := 13) (v := ?v13_78) rfl (by kernel_rfl) (by kernel_rfl) (by kernel_rfl) (fun _ _ _ h => h) (Or.inl ⟨by rfl, ?hy13_78⟩) ?rest13_78
        case hy13_78 => intro w; (first | (go_simp; done) | (go_simp; with_reducible rfl))
        refine wpAny_ready (rs := [14]) (by kernel_rfl) (by simp) ?_
        refine AllReady.cons rfl (fun K hK => ?_) AllReady.nil
        go_simp
        refine hK _ _ ?_
        clear hK K
        refine wpAny_done (by kernel_rfl) ?_ _
        have hcap : byV (l ++ [byI x 5]) = byV l ++ [.int .u8 (IntKind.u8.wrap (x / 1099511627776))] := by rw [byV_app]; simp only [byV, List.map_cons, List.map_nil]; rw [byI_pow x 5 1099511627776 (by decide)]
        have HMn : Hid ((w6.setCell ⟨M, 0, none⟩ (.slice (some ⟨g, 0, none⟩) (l.length + 1) cap)).heap[M]? = some (.cells #[.slice (some ⟨g, 0, none⟩) (l.length + 1) cap, pv, .bool o.2] 86 (0, 0))) := lhid (heap_set hM6 _)
        have HWn : Hid ((w6.setCell ⟨M, 0, none⟩ (.slice (some ⟨g, 0, none⟩) (l.length + 1) cap)).ownsRow B 5 1 (.slice (some ⟨g, 0, none⟩) (l.length + 1) cap) (l.length + 1) (byV (l ++ [byI x 5]))) := lhid (by rw [hcap]; exact own_stay hown ((Stay.refl [5] w6).set (p := ⟨M, 0, none⟩) hM6 (by decide) _) (by simp))
        have HBn : Hid (Below B w (w6.setCell ⟨M, 0, none⟩ (.slice (some ⟨g, 0, none⟩) (l.length + 1) cap))) := lhid ((HBa.out.trans (grownBelow hgrow hge (Nat.le_trans hB HBa.out.size))).setCell (p := ⟨M, 0, none⟩) hBM _)
        have HSn : Hid (Stay tW w (w6.setCell ⟨M, 0, none⟩ (.slice (some ⟨g, 0, none⟩) (l.length + 1) cap))) := lhid ((HSa.out.trans (grown_stay hgrow HWa.out (by decide))).set (p := ⟨M, 0, none⟩) hM6 (by decide) _)
        clear hown hgrow hat hge hlt6 hM6 q6 z6 hcap
        go_wp2
        go_roundw
        case rel =>
          have hlen : (l ++ [byI x 5]).length = l.length + 1 := by simp
          refine ⟨5, l ++ [byI x 5], some ⟨g, 0, none⟩, cap, by simp, by omega, by rw [hlen]; omega, lhid (by rw [hlen]; exact HMn.out), lhid (by rw [hlen]; exact HWn.out), HBn, HSn, lhid ?_⟩
          rw [← HE.out, beW, List.append_assoc]
          rfl
        case measure => simp [intOf]
    · have wl : IntKind.i64.wrap 48 = 48 := rfl
      have m0 := heap_cell (i := 0) HMr.out rfl
      have mz := heap_thaw HMr.out 0
      have h63 : l.length + 1 ≤ maxLen := by unfold maxLen; omega
      have hby : (l.length + 1) * 1 ≤ 140737488355328 := by omega
      have H1C : Hid (∀ u ∈ ([.int .u8 (IntKind.u8.wrap (x / 281474976710656))] : List Value), u.oneCell' = true) := lhid (by intro u hu; simp at hu; subst hu; rfl)
      go_upto_region 3 with fail
      refine wp_region_any (by kernel_rfl) ?_
      try (change wpAny _ _ _ _ _ _ _ (World.drew _))
      refine wpAny_take (i := 0) (v := ?v0_79) rfl (by kernel_rfl) (by kernel_rfl) (by kernel_rfl) (fun _ _ _ h => h) (Or.inl ⟨by rfl, ?hy0_79⟩) ?rest0_79
      case hy0_79 => intro w; (first | (go_simp; done) | (go_simp; with_reducible rfl))
      refine wpAny_take (i := 1) (v := ?v1_80) rfl (by kernel_rfl) (by kernel_rfl) (by kernel_rfl) (fun _ _ _ h => h) (Or.inl ⟨by rfl, ?hy1_80⟩) ?rest1_80
      case hy1_80 => intro w; (first | (go_simp; done) | (go_simp; with_reducible rfl))
      refine wpAny_take (i := 2) (v := ?v2_81) rfl (by kernel_rfl) (by kernel_rfl) (by kernel_rfl) (fun _ _ _ h => h) (Or.inl ⟨by rfl, ?hy2_81⟩) ?rest2_81
      case hy2_81 => intro w; (first | (go_simp; done) | (go_simp; with_reducible rfl))
      refine wpAny_take (i := 3) (v := ?v3_82) rfl (by kernel_rfl) (by kernel_rfl) (by kernel_rfl) (fun _ _ _ h => h) (Or.inl ⟨by rfl, ?hy3_82⟩) ?rest3_82
      case hy3_82 => intro w; (first | (go_simp; done) | (go_simp; with_reducible rfl))
      refine wpAny_take (i := 5) (v := ?v5_83) rfl (by kernel_rfl) (by kernel_rfl) (by kernel_rfl) (fun _ _ _ h => h) (Or.inl ⟨by rfl, ?hy5_83⟩) ?rest5_83
      case hy5_83 => intro w; (first | (go_simp; done) | (go_simp; with_reducible rfl))
      refine wpAny_take (i := 6) (v := ?v6_84) rfl (by kernel_rfl) (by kernel_rfl) (by kernel_rfl) (fun _ _ _ h => h) (Or.inl ⟨by rfl, ?hy6_84⟩) ?rest6_84
      case hy6_84 => intro w; (first | (go_simp; done) | (go_simp; with_reducible rfl))
      refine wpAny_take (i := 7) (v := ?v7_85) rfl (by kernel_rfl) (by kernel_rfl) (by kernel_rfl) (fun _ _ _ h => h) (Or.inl ⟨by rfl, ?hy7_85⟩) ?rest7_85
      case hy7_85 => intro w; (first | (go_simp; done) | (go_simp; with_reducible rfl))
      refine wpAny_take (i := 8) (v := ?v8_86) rfl (by kernel_rfl) (by kernel_rfl) (by kernel_rfl) (fun _ _ _ h => h) (Or.inl ⟨by rfl, ?hy8_86⟩) ?rest8_86
      case hy8_86 => intro w; (first | (go_simp; done) | (go_simp; with_reducible rfl))
      refine wpAny_take (i := 9) (v := ?v9_87) rfl (by kernel_rfl) (by kernel_rfl) (by kernel_rfl) (fun _ _ _ h => h) (Or.inl ⟨by rfl, ?hy9_87⟩) ?rest9_87
      case hy9_87 => intro w; (first | (go_simp; done) | (go_simp; with_reducible rfl))
      refine wpAny_ready (rs := [4, 10]) (by kernel_rfl) (by simp) ?_
      refine AllReady.cons rfl (fun K hK => ?_) (AllReady.cons rfl (fun K hK => ?_) AllReady.nil)
      · go_simp
        refine hK _ _ ?_
        clear hK K
        refine wpAny_ready (rs := [10]) (by kernel_rfl) (by simp) ?_
        refine AllReady.cons rfl (fun K hK => ?_) AllReady.nil
        go_simp
        refine hK _ _ ?_
        clear hK K
        have HMa : Hid ((wr.alloc (.cells #[.int .u8 (IntKind.u8.wrap (x / 281474976710656))] 5 (0, 0))).drew.heap[M]? = some (.cells #[.slice A l.length c, pv, .bool o.2] 86 (0, 0))) := lhid ((Below.heap_alloc wr (.cells #[.int .u8 (IntKind.u8.wrap (x / 281474976710656))] 5 (0, 0)) _ (heap_lt HMr.out)).trans HMr.out)
        have HWa : Hid ((wr.alloc (.cells #[.int .u8 (IntKind.u8.wrap (x / 281474976710656))] 5 (0, 0))).drew.ownsRow B 5 1 (.slice A l.length c) l.length (byV l)) := lhid (own_far (HWr.out.alloc (.cells #[.int .u8 (IntKind.u8.wrap (x / 281474976710656))] 5 (0, 0))) (w' := (wr.alloc (.cells #[.int .u8 (IntKind.u8.wrap (x / 281474976710656))] 5 (0, 0))).drew) fun _ _ => rfl)
        have HBa : Hid (Below B w (wr.alloc (.cells #[.int .u8 (IntKind.u8.wrap (x / 281474976710656))] 5 (0, 0))).drew) := lhid ((HBr.out.alloc (Nat.le_trans hB HBr.out.size) (.cells #[.int .u8 (IntKind.u8.wrap (x / 281474976710656))] 5 (0, 0))).drew)
        have HSa : Hid (Stay tW w (wr.alloc (.cells #[.int .u8 (IntKind.u8.wrap (x / 281474976710656))] 5 (0, 0))).drew) := lhid ((HSr.out.alloc (.cells #[.int .u8 (IntKind.u8.wrap (x / 281474976710656))] 5 (0, 0))).drew)
        have HNa : Hid ((wr.alloc (.cells #[.int .u8 (IntKind.u8.wrap (x / 281474976710656))] 5 (0, 0))).drew.heap[wr.heap.size]? = some (.cells #[.int .u8 (IntKind.u8.wrap (x / 281474976710656))] 5 (0, 0))) := lhid (heap_alloc_new wr (.cells #[.int .u8 (IntKind.u8.wrap (x / 281474976710656))] 5 (0, 0)))
        have m0a := heap_cell (i := 0) HMa.out rfl
        refine wpAny_ready (rs := [11]) (by kernel_rfl) (by simp) ?_
        refine AllReady.cons rfl (fun K hK => ?_) AllReady.nil
        refine step_append_lies _ rfl (.tmp 17) (.tmp 23) 22 rfl B 5 i0 (.int .u8 0) 1 1 Tryz.underlying22 hi0 hz0 hz1 hz2 rfl (by decide) (.slice A l.length c) l.length (byV l) rfl HWa.out _ 1 _ [.int .u8 (IntKind.u8.wrap (x / 281474976710656))] rfl rfl (World.news_of_block HNa.out) H1C.out (by decide) h63 hby (Nat.le_trans hB HBa.out.size) _ rfl ?_
        intro g cap w6 hown hgrow hat hlt6
        have hge := own_lt HWa.out
        have hM6 : w6.heap[M]? = some (.cells #[.slice A l.length c, pv, .bool o.2] 86 (0, 0)) := (grown_stay (Ts := [86]) hgrow HWa.out (by decide)) M _ _ _ (by simp) HMa.out
        have q6 := heap_cell (i := 0) hM6 rfl
        have z6 := heap_thaw hM6 0
        refine hK _ _ ?_
        clear hK K
        refine wpAny_take (i := 12) (v := ?v12_88) rfl (by kernel_rfl) (by kernel_rfl) (by kernel_rfl) (fun _ _ _ h => h) (Or.inl ⟨by rfl, ?hy12_88⟩) ?rest12_88
        case hy12_88 => intro w; (first | (go_simp; done) | (go_simp; with_reducible rfl))
        refine wpAny_take (i := 13) (v := ?v13_89) rfl (by kernel_rfl) (by kernel_rfl) (by kernel_rfl) (fun _ _ _ h => h) (Or.inl ⟨by rfl, ?hy13_89⟩) ?rest13_89
        case hy13_89 => intro w; (first | (go_simp; done) | (go_simp; with_reducible rfl))
        refine wpAny_ready (rs := [14]) (by kernel_rfl) (by simp) ?_
        refine AllReady.cons rfl (fun K hK => ?_) AllReady.nil
        go_simp
        refine hK _ _ ?_
        clear hK K
        refine wpAny_done (by kernel_rfl) ?_ _
        have hcap : byV (l ++ [byI x 6]) = byV l ++ [.int .u8 (IntKind.u8.wrap (x / 281474976710656))] := by rw [byV_app]; simp only [byV, List.map_cons, List.map_nil]; rw [byI_pow x 6 281474976710656 (by decide)]
        have HMn : Hid ((w6.setCell ⟨M, 0, none⟩ (.slice (some ⟨g, 0, none⟩) (l.length + 1) cap)).heap[M]? = some (.cells #[.slice (some ⟨g, 0, none⟩) (l.length + 1) cap, pv, .bool o.2] 86 (0, 0))) := lhid (heap_set hM6 _)
        have HWn : Hid ((w6.setCell ⟨M, 0, none⟩ (.slice (some ⟨g, 0, none⟩) (l.length + 1) cap)).ownsRow B 5 1 (.slice (some ⟨g, 0, none⟩) (l.length + 1) cap) (l.length + 1) (byV (l ++ [byI x 6]))) := lhid (by rw [hcap]; exact own_stay hown ((Stay.refl [5] w6).set (p := ⟨M, 0, none⟩) hM6 (by decide) _) (by simp))
        have HBn : Hid (Below B w (w6.setCell ⟨M, 0, none⟩ (.slice (some ⟨g, 0, none⟩) (l.length + 1) cap))) := lhid ((HBa.out.trans (grownBelow hgrow hge (Nat.le_trans hB HBa.out.size))).setCell (p := ⟨M, 0, none⟩) hBM _)
        have HSn : Hid (Stay tW w (w6.setCell ⟨M, 0, none⟩ (.slice (some ⟨g, 0, none⟩) (l.length + 1) cap))) := lhid ((HSa.out.trans (grown_stay hgrow HWa.out (by decide))).set (p := ⟨M, 0, none⟩) hM6 (by decide) _)
        clear hown hgrow hat hge hlt6 hM6 q6 z6 hcap
        go_wp2
        go_roundw
        case rel =>
          have hlen : (l ++ [byI x 6]).length = l.length + 1 := by simp
          refine ⟨6, l ++ [byI x 6], some ⟨g, 0, none⟩, cap, by simp, by omega, by rw [hlen]; omega, lhid (by rw [hlen]; exact HMn.out), lhid (by rw [hlen]; exact HWn.out), HBn, HSn, lhid ?_⟩
          rw [← HE.out, beW, List.append_assoc]
          rfl
        case measure => simp [intOf]
      · go_simp
        refine hK _ _ ?_
        clear hK K
        have HMa : Hid ((wr.alloc (.cells #[.int .u8 (IntKind.u8.wrap (x / 281474976710656))] 5 (0, 0))).drew.heap[M]? = some (.cells #[.slice A l.length c, pv, .bool o.2] 86 (0, 0))) := lhid ((Below.heap_alloc wr (.cells #[.int .u8 (IntKind.u8.wrap (x / 281474976710656))] 5 (0, 0)) _ (heap_lt HMr.out)).trans HMr.out)
        have HWa : Hid ((wr.alloc (.cells #[.int .u8 (IntKind.u8.wrap (x / 281474976710656))] 5 (0, 0))).drew.ownsRow B 5 1 (.slice A l.length c) l.length (byV l)) := lhid (own_far (HWr.out.alloc (.cells #[.int .u8 (IntKind.u8.wrap (x / 281474976710656))] 5 (0, 0))) (w' := (wr.alloc (.cells #[.int .u8 (IntKind.u8.wrap (x / 281474976710656))] 5 (0, 0))).drew) fun _ _ => rfl)
        have HBa : Hid (Below B w (wr.alloc (.cells #[.int .u8 (IntKind.u8.wrap (x / 281474976710656))] 5 (0, 0))).drew) := lhid ((HBr.out.alloc (Nat.le_trans hB HBr.out.size) (.cells #[.int .u8 (IntKind.u8.wrap (x / 281474976710656))] 5 (0, 0))).drew)
        have HSa : Hid (Stay tW w (wr.alloc (.cells #[.int .u8 (IntKind.u8.wrap (x / 281474976710656))] 5 (0, 0))).drew) := lhid ((HSr.out.alloc (.cells #[.int .u8 (IntKind.u8.wrap (x / 281474976710656))] 5 (0, 0))).drew)
        have HNa : Hid ((wr.alloc (.cells #[.int .u8 (IntKind.u8.wrap (x / 281474976710656))] 5 (0, 0))).drew.heap[wr.heap.size]? = some (.cells #[.int .u8 (IntKind.u8.wrap (x / 281474976710656))] 5 (0, 0))) := lhid (heap_alloc_new wr (.cells #[.int .u8 (IntKind.u8.wrap (x / 281474976710656))] 5 (0, 0)))
        have m0a := heap_cell (i := 0) HMa.out rfl
        refine wpAny_ready (rs := [4]) (by kernel_rfl) (by simp) ?_
        refine AllReady.cons rfl (fun K hK => ?_) AllReady.nil
        go_simp
        refine hK _ _ ?_
        clear hK K
        refine wpAny_ready (rs := [11]) (by kernel_rfl) (by simp) ?_
        refine AllReady.cons rfl (fun K hK => ?_) AllReady.nil
        refine step_append_lies _ rfl (.tmp 17) (.tmp 23) 22 rfl B 5 i0 (.int .u8 0) 1 1 Tryz.underlying22 hi0 hz0 hz1 hz2 rfl (by decide) (.slice A l.length c) l.length (byV l) rfl HWa.out _ 1 _ [.int .u8 (IntKind.u8.wrap (x / 281474976710656))] rfl rfl (World.news_of_block HNa.out) H1C.out (by decide) h63 hby (Nat.le_trans hB HBa.out.size) _ rfl ?_
        intro g cap w6 hown hgrow hat hlt6
        have hge := own_lt HWa.out
        have hM6 : w6.heap[M]? = some (.cells #[.slice A l.length c, pv, .bool o.2] 86 (0, 0)) := (grown_stay (Ts := [86]) hgrow HWa.out (by decide)) M _ _ _ (by simp) HMa.out
        have q6 := heap_cell (i := 0) hM6 rfl
        have z6 := heap_thaw hM6 0
        refine hK _ _ ?_
        clear hK K
        refine wpAny_take (i := 12) (v := ?v12_90) rfl (by kernel_rfl) (by kernel_rfl) (by kernel_rfl) (fun _ _ _ h => h) (Or.inl ⟨by rfl, ?hy12_90⟩) ?rest12_90
        case hy12_90 => intro w; (first | (go_simp; done) | (go_simp; with_reducible rfl))
        refine wpAny_take (i := 13) (v := ?v13_91) rfl (by kernel_rfl) (by kernel_rfl) (by kernel_rfl) (fun _ _ _ h => h) (Or.inl ⟨by rfl, ?hy13_91⟩) ?rest13_91
        case hy13_91 => intro w; (first | (go_simp; done) | (go_simp; with_reducible rfl))
        refine wpAny_ready (rs := [14]) (by kernel_rfl) (by simp) ?_
        refine AllReady.cons rfl (fun K hK => ?_) AllReady.nil
        go_simp
        refine hK _ _ ?_
        clear hK K
        refine wpAny_done (by kernel_rfl) ?_ _
        have hcap : byV (l ++ [byI x 6]) = byV l ++ [.int .u8 (IntKind.u8.wrap (x / 281474976710656))] := by rw [byV_app]; simp only [byV, List.map_cons, List.map_nil]; rw [byI_pow x 6 281474976710656 (by decide)]
        have HMn : Hid ((w6.setCell ⟨M, 0, none⟩ (.slice (some ⟨g, 0, none⟩) (l.length + 1) cap)).heap[M]? = some (.cells #[.slice (some ⟨g, 0, none⟩) (l.length + 1) cap, pv, .bool o.2] 86 (0, 0))) := lhid (heap_set hM6 _)
        have HWn : Hid ((w6.setCell ⟨M, 0, none⟩ (.slice (some ⟨g, 0, none⟩) (l.length + 1) cap)).ownsRow B 5 1 (.slice (some ⟨g, 0, none⟩) (l.length + 1) cap) (l.length + 1) (byV (l ++ [byI x 6]))) := lhid (by rw [hcap]; exact own_stay hown ((Stay.refl [5] w6).set (p := ⟨M, 0, none⟩) hM6 (by decide) _) (by simp))
        have HBn : Hid (Below B w (w6.setCell ⟨M, 0, none⟩ (.slice (some ⟨g, 0, none⟩) (l.length + 1) cap))) := lhid ((HBa.out.trans (grownBelow hgrow hge (Nat.le_trans hB HBa.out.size))).setCell (p := ⟨M, 0, none⟩) hBM _)
        have HSn : Hid (Stay tW w (w6.setCell ⟨M, 0, none⟩ (.slice (some ⟨g, 0, none⟩) (l.length + 1) cap))) := lhid ((HSa.out.trans (grown_stay hgrow HWa.out (by decide))).set (p := ⟨M, 0, none⟩) hM6 (by decide) _)
        clear hown hgrow hat hge hlt6 hM6 q6 z6 hcap
        go_wp2
        go_roundw
        case rel =>
          have hlen : (l ++ [byI x 6]).length = l.length + 1 := by simp
          refine ⟨6, l ++ [byI x 6], some ⟨g, 0, none⟩, cap, by simp, by omega, by rw [hlen]; omega, lhid (by rw [hlen]; exact HMn.out), lhid (by rw [hlen]; exact HWn.out), HBn, HSn, lhid ?_⟩
          rw [← HE.out, beW, List.append_assoc]
          rfl
        case measure => simp [intOf]
    · have wl : IntKind.i64.wrap 56 = 56 := rfl
      have m0 := heap_cell (i := 0) HMr.out rfl
      have mz := heap_thaw HMr.out 0
      have h63 : l.length + 1 ≤ maxLen := by unfold maxLen; omega
      have hby : (l.length + 1) * 1 ≤ 140737488355328 := by omega
      have H1C : Hid (∀ u ∈ ([.int .u8 (IntKind.u8.wrap (x / 72057594037927936))] : List Value), u.oneCell' = true) := lhid (by intro u hu; simp at hu; subst hu; rfl)
      go_upto_region 3 with fail
      refine wp_region_any (by kernel_rfl) ?_
      try (change wpAny _ _ _ _ _ _ _ (World.drew _))
      refine wpAny_take (i := 0) (v := ?v0_92) rfl (by kernel_rfl) (by kernel_rfl) (by kernel_rfl) (fun _ _ _ h => h) (Or.inl ⟨by rfl, ?hy0_92⟩) ?rest0_92
      case hy0_92 => intro w; (first | (go_simp; done) | (go_simp; with_reducible rfl))
      refine wpAny_take (i := 1) (v := ?v1_93) rfl (by kernel_rfl) (by kernel_rfl) (by kernel_rfl) (fun _ _ _ h => h) (Or.inl ⟨by rfl, ?hy1_93⟩) ?rest1_93
      case hy1_93 => intro w; (first | (go_simp; done) | (go_simp; with_reducible rfl))
      refine wpAny_take (i := 2) (v := ?v2_94) rfl (by kernel_rfl) (by kernel_rfl) (by kernel_rfl) (fun _ _ _ h => h) (Or.inl ⟨by rfl, ?hy2_94⟩) ?rest2_94
      case hy2_94 => intro w; (first | (go_simp; done) | (go_simp; with_reducible rfl))
      refine wpAny_take (i := 3) (v := ?v3_95) rfl (by kernel_rfl) (by kernel_rfl) (by kernel_rfl) (fun _ _ _ h => h) (Or.inl ⟨by rfl, ?hy3_95⟩) ?rest3_95
      case hy3_95 => intro w; (first | (go_simp; done) | (go_simp; with_reducible rfl))
      refine wpAny_take (i := 5) (v := ?v5_96) rfl (by kernel_rfl) (by kernel_rfl) (by kernel_rfl) (fun _ _ _ h => h) (Or.inl ⟨by rfl, ?hy5_96⟩) ?rest5_96
      case hy5_96 => intro w; (first | (go_simp; done) | (go_simp; with_reducible rfl))
      refine wpAny_take (i := 6) (v := ?v6_97) rfl (by kernel_rfl) (by kernel_rfl) (by kernel_rfl) (fun _ _ _ h => h) (Or.inl ⟨by rfl, ?hy6_97⟩) ?rest6_97
      case hy6_97 => intro w; (first | (go_simp; done) | (go_simp; with_reducible rfl))
      refine wpAny_take (i := 7) (v := ?v7_98) rfl (by kernel_rfl) (by kernel_rfl) (by kernel_rfl) (fun _ _ _ h => h) (Or.inl ⟨by rfl, ?hy7_98⟩) ?rest7_98
      case hy7_98 => intro w; (first | (go_simp; done) | (go_simp; with_reducible rfl))
      refine wpAny_take (i := 8) (v := ?v8_99) rfl (by kernel_rfl) (by kernel_rfl) (by kernel_rfl) (fun _ _ _ h => h) (Or.inl ⟨by rfl, ?hy8_99⟩) ?rest8_99
      case hy8_99 => intro w; (first | (go_simp; done) | (go_simp; with_reducible rfl))
      refine wpAny_take (i := 9) (v := ?v9_100) rfl (by kernel_rfl) (by kernel_rfl) (by kernel_rfl) (fun _ _ _ h => h) (Or.inl ⟨by rfl, ?hy9_100⟩) ?rest9_100
      case hy9_100 => intro w; (first | (go_simp; done) | (go_simp; with_reducible rfl))
      refine wpAny_ready (rs := [4, 10]) (by kernel_rfl) (by simp) ?_
      refine AllReady.cons rfl (fun K hK => ?_) (AllReady.cons rfl (fun K hK => ?_) AllReady.nil)
      · go_simp
        refine hK _ _ ?_
        clear hK K
        refine wpAny_ready (rs := [10]) (by kernel_rfl) (by simp) ?_
        refine AllReady.cons rfl (fun K hK => ?_) AllReady.nil
        go_simp
        refine hK _ _ ?_
        clear hK K
        have HMa : Hid ((wr.alloc (.cells #[.int .u8 (IntKind.u8.wrap (x / 72057594037927936))] 5 (0, 0))).drew.heap[M]? = some (.cells #[.slice A l.length c, pv, .bool o.2] 86 (0, 0))) := lhid ((Below.heap_alloc wr (.cells #[.int .u8 (IntKind.u8.wrap (x / 72057594037927936))] 5 (0, 0)) _ (heap_lt HMr.out)).trans HMr.out)
        have HWa : Hid ((wr.alloc (.cells #[.int .u8 (IntKind.u8.wrap (x / 72057594037927936))] 5 (0, 0))).drew.ownsRow B 5 1 (.slice A l.length c) l.length (byV l)) := lhid (own_far (HWr.out.alloc (.cells #[.int .u8 (IntKind.u8.wrap (x / 72057594037927936))] 5 (0, 0))) (w' := (wr.alloc (.cells #[.int .u8 (IntKind.u8.wrap (x / 72057594037927936))] 5 (0, 0))).drew) fun _ _ => rfl)
        have HBa : Hid (Below B w (wr.alloc (.cells #[.int .u8 (IntKind.u8.wrap (x / 72057594037927936))] 5 (0, 0))).drew) := lhid ((HBr.out.alloc (Nat.le_trans hB HBr.out.size) (.cells #[.int .u8 (IntKind.u8.wrap (x / 72057594037927936))] 5 (0, 0))).drew)
        have HSa : Hid (Stay tW w (wr.alloc (.cells #[.int .u8 (IntKind.u8.wrap (x / 72057594037927936))] 5 (0, 0))).drew) := lhid ((HSr.out.alloc (.cells #[.int .u8 (IntKind.u8.wrap (x / 72057594037927936))] 5 (0, 0))).drew)
        have HNa : Hid ((wr.alloc (.cells #[.int .u8 (IntKind.u8.wrap (x / 72057594037927936))] 5 (0, 0))).drew.heap[wr.heap.size]? = some (.cells #[.int .u8 (IntKind.u8.wrap (x / 72057594037927936))] 5 (0, 0))) := lhid (heap_alloc_new wr (.cells #[.int .u8 (IntKind.u8.wrap (x / 72057594037927936))] 5 (0, 0)))
        have m0a := heap_cell (i := 0) HMa.out rfl
        refine wpAny_ready (rs := [11]) (by kernel_rfl) (by simp) ?_
        refine AllReady.cons rfl (fun K hK => ?_) AllReady.nil
        refine step_append_lies _ rfl (.tmp 17) (.tmp 23) 22 rfl B 5 i0 (.int .u8 0) 1 1 Tryz.underlying22 hi0 hz0 hz1 hz2 rfl (by decide) (.slice A l.length c) l.length (byV l) rfl HWa.out _ 1 _ [.int .u8 (IntKind.u8.wrap (x / 72057594037927936))] rfl rfl (World.news_of_block HNa.out) H1C.out (by decide) h63 hby (Nat.le_trans hB HBa.out.size) _ rfl ?_
        intro g cap w6 hown hgrow hat hlt6
        have hge := own_lt HWa.out
        have hM6 : w6.heap[M]? = some (.cells #[.slice A l.length c, pv, .bool o.2] 86 (0, 0)) := (grown_stay (Ts := [86]) hgrow HWa.out (by decide)) M _ _ _ (by simp) HMa.out
        have q6 := heap_cell (i := 0) hM6 rfl
        have z6 := heap_thaw hM6 0
        refine hK _ _ ?_
        clear hK K
        refine wpAny_take (i := 12) (v := ?v12_101) rfl (by kernel_rfl) (by kernel_rfl) (by kernel_rfl) (fun _ _ _ h => h) (Or.inl ⟨by rfl, ?hy12_101⟩) ?rest12_101
        case hy12_101 => intro w; (first | (go_simp; done) | (go_simp; with_reducible rfl))
        refine wpAny_take (i := 13) (v := ?v13_102) rfl (by kernel_rfl) (by kernel_rfl) (by kernel_rfl) (fun _ _ _ h => h) (Or.inl ⟨by rfl, ?hy13_102⟩) ?rest13_102
        case hy13_102 => intro w; (first | (go_simp; done) | (go_simp; with_reducible rfl))
        refine wpAny_ready (rs := [14]) (by kernel_rfl) (by simp) ?_
        refine AllReady.cons rfl (fun K hK => ?_) AllReady.nil
        go_simp
        refine hK _ _ ?_
        clear hK K
        refine wpAny_done (by kernel_rfl) ?_ _
        have hcap : byV (l ++ [byI x 7]) = byV l ++ [.int .u8 (IntKind.u8.wrap (x / 72057594037927936))] := by rw [byV_app]; simp only [byV, List.map_cons, List.map_nil]; rw [byI_pow x 7 72057594037927936 (by decide)]
        have HMn : Hid ((w6.setCell ⟨M, 0, none⟩ (.slice (some ⟨g, 0, none⟩) (l.length + 1) cap)).heap[M]? = some (.cells #[.slice (some ⟨g, 0, none⟩) (l.length + 1) cap, pv, .bool o.2] 86 (0, 0))) := lhid (heap_set hM6 _)
        have HWn : Hid ((w6.setCell ⟨M, 0, none⟩ (.slice (some ⟨g, 0, none⟩) (l.length + 1) cap)).ownsRow B 5 1 (.slice (some ⟨g, 0, none⟩) (l.length + 1) cap) (l.length + 1) (byV (l ++ [byI x 7]))) := lhid (by rw [hcap]; exact own_stay hown ((Stay.refl [5] w6).set (p := ⟨M, 0, none⟩) hM6 (by decide) _) (by simp))
        have HBn : Hid (Below B w (w6.setCell ⟨M, 0, none⟩ (.slice (some ⟨g, 0, none⟩) (l.length + 1) cap))) := lhid ((HBa.out.trans (grownBelow hgrow hge (Nat.le_trans hB HBa.out.size))).setCell (p := ⟨M, 0, none⟩) hBM _)
        have HSn : Hid (Stay tW w (w6.setCell ⟨M, 0, none⟩ (.slice (some ⟨g, 0, none⟩) (l.length + 1) cap))) := lhid ((HSa.out.trans (grown_stay hgrow HWa.out (by decide))).set (p := ⟨M, 0, none⟩) hM6 (by decide) _)
        clear hown hgrow hat hge hlt6 hM6 q6 z6 hcap
        go_wp2
        go_roundw
        case rel =>
          have hlen : (l ++ [byI x 7]).length = l.length + 1 := by simp
          refine ⟨7, l ++ [byI x 7], some ⟨g, 0, none⟩, cap, by simp, by omega, by rw [hlen]; omega, lhid (by rw [hlen]; exact HMn.out), lhid (by rw [hlen]; exact HWn.out), HBn, HSn, lhid ?_⟩
          rw [← HE.out, beW, List.append_assoc]
          rfl
        case measure => simp [intOf]
      · go_simp
        refine hK _ _ ?_
        clear hK K
        have HMa : Hid ((wr.alloc (.cells #[.int .u8 (IntKind.u8.wrap (x / 72057594037927936))] 5 (0, 0))).drew.heap[M]? = some (.cells #[.slice A l.length c, pv, .bool o.2] 86 (0, 0))) := lhid ((Below.heap_alloc wr (.cells #[.int .u8 (IntKind.u8.wrap (x / 72057594037927936))] 5 (0, 0)) _ (heap_lt HMr.out)).trans HMr.out)
        have HWa : Hid ((wr.alloc (.cells #[.int .u8 (IntKind.u8.wrap (x / 72057594037927936))] 5 (0, 0))).drew.ownsRow B 5 1 (.slice A l.length c) l.length (byV l)) := lhid (own_far (HWr.out.alloc (.cells #[.int .u8 (IntKind.u8.wrap (x / 72057594037927936))] 5 (0, 0))) (w' := (wr.alloc (.cells #[.int .u8 (IntKind.u8.wrap (x / 72057594037927936))] 5 (0, 0))).drew) fun _ _ => rfl)
        have HBa : Hid (Below B w (wr.alloc (.cells #[.int .u8 (IntKind.u8.wrap (x / 72057594037927936))] 5 (0, 0))).drew) := lhid ((HBr.out.alloc (Nat.le_trans hB HBr.out.size) (.cells #[.int .u8 (IntKind.u8.wrap (x / 72057594037927936))] 5 (0, 0))).drew)
        have HSa : Hid (Stay tW w (wr.alloc (.cells #[.int .u8 (IntKind.u8.wrap (x / 72057594037927936))] 5 (0, 0))).drew) := lhid ((HSr.out.alloc (.cells #[.int .u8 (IntKind.u8.wrap (x / 72057594037927936))] 5 (0, 0))).drew)
        have HNa : Hid ((wr.alloc (.cells #[.int .u8 (IntKind.u8.wrap (x / 72057594037927936))] 5 (0, 0))).drew.heap[wr.heap.size]? = some (.cells #[.int .u8 (IntKind.u8.wrap (x / 72057594037927936))] 5 (0, 0))) := lhid (heap_alloc_new wr (.cells #[.int .u8 (IntKind.u8.wrap (x / 72057594037927936))] 5 (0, 0)))
        have m0a := heap_cell (i := 0) HMa.out rfl
        refine wpAny_ready (rs := [4]) (by kernel_rfl) (by simp) ?_
        refine AllReady.cons rfl (fun K hK => ?_) AllReady.nil
        go_simp
        refine hK _ _ ?_
        clear hK K
        refine wpAny_ready (rs := [11]) (by kernel_rfl) (by simp) ?_
        refine AllReady.cons rfl (fun K hK => ?_) AllReady.nil
        refine step_append_lies _ rfl (.tmp 17) (.tmp 23) 22 rfl B 5 i0 (.int .u8 0) 1 1 Tryz.underlying22 hi0 hz0 hz1 hz2 rfl (by decide) (.slice A l.length c) l.length (byV l) rfl HWa.out _ 1 _ [.int .u8 (IntKind.u8.wrap (x / 72057594037927936))] rfl rfl (World.news_of_block HNa.out) H1C.out (by decide) h63 hby (Nat.le_trans hB HBa.out.size) _ rfl ?_
        intro g cap w6 hown hgrow hat hlt6
        have hge := own_lt HWa.out
        have hM6 : w6.heap[M]? = some (.cells #[.slice A l.length c, pv, .bool o.2] 86 (0, 0)) := (grown_stay (Ts := [86]) hgrow HWa.out (by decide)) M _ _ _ (by simp) HMa.out
        have q6 := heap_cell (i := 0) hM6 rfl
        have z6 := heap_thaw hM6 0
        refine hK _ _ ?_
        clear hK K
        refine wpAny_take (i := 12) (v := ?v12_103) rfl (by kernel_rfl) (by kernel_rfl) (by kernel_rfl) (fun _ _ _ h => h) (Or.inl ⟨by rfl, ?hy12_103⟩) ?rest12_103
        case hy12_103 => intro w; (first | (go_simp; done) | (go_simp; with_reducible rfl))
        refine wpAny_take (i := 13) (v := ?v13_104) rfl (by kernel_rfl) (by kernel_rfl) (by kernel_rfl) (fun _ _ _ h => h) (Or.inl ⟨by rfl, ?hy13_104⟩) ?rest13_104
        case hy13_104 => intro w; (first | (go_simp; done) | (go_simp; with_reducible rfl))
        refine wpAny_ready (rs := [14]) (by kernel_rfl) (by simp) ?_
        refine AllReady.cons rfl (fun K hK => ?_) AllReady.nil
        go_simp
        refine hK _ _ ?_
        clear hK K
        refine wpAny_done (by kernel_rfl) ?_ _
        have hcap : byV (l ++ [byI x 7]) = byV l ++ [.int .u8 (IntKind.u8.wrap (x / 72057594037927936))] := by rw [byV_app]; simp only [byV, List.map_cons, List.map_nil]; rw [byI_pow x 7 72057594037927936 (by decide)]
        have HMn : Hid ((w6.setCell ⟨M, 0, none⟩ (.slice (some ⟨g, 0, none⟩) (l.length + 1) cap)).heap[M]? = some (.cells #[.slice (some ⟨g, 0, none⟩) (l.length + 1) cap, pv, .bool o.2] 86 (0, 0))) := lhid (heap_set hM6 _)
        have HWn : Hid ((w6.setCell ⟨M, 0, none⟩ (.slice (some ⟨g, 0, none⟩) (l.length + 1) cap)).ownsRow B 5 1 (.slice (some ⟨g, 0, none⟩) (l.length + 1) cap) (l.length + 1) (byV (l ++ [byI x 7]))) := lhid (by rw [hcap]; exact own_stay hown ((Stay.refl [5] w6).set (p := ⟨M, 0, none⟩) hM6 (by decide) _) (by simp))
        have HBn : Hid (Below B w (w6.setCell ⟨M, 0, none⟩ (.slice (some ⟨g, 0, none⟩) (l.length + 1) cap))) := lhid ((HBa.out.trans (grownBelow hgrow hge (Nat.le_trans hB HBa.out.size))).setCell (p := ⟨M, 0, none⟩) hBM _)
        have HSn : Hid (Stay tW w (w6.setCell ⟨M, 0, none⟩ (.slice (some ⟨g, 0, none⟩) (l.length + 1) cap))) := lhid ((HSa.out.trans (grown_stay hgrow HWa.out (by decide))).set (p := ⟨M, 0, none⟩) hM6 (by decide) _)
        clear hown hgrow hat hge hlt6 hM6 q6 z6 hcap
        go_wp2
        go_roundw
        case rel =>
          have hlen : (l ++ [byI x 7]).length = l.length + 1 := by simp
          refine ⟨7, l ++ [byI x 7], some ⟨g, 0, none⟩, cap, by simp, by omega, by rw [hlen]; omega, lhid (by rw [hlen]; exact HMn.out), lhid (by rw [hlen]; exact HWn.out), HBn, HSn, lhid ?_⟩
          rw [← HE.out, beW, List.append_assoc]
          rfl
        case measure => simp [intOf]
end Go.Proofs.YtdlmadckpcnkoaaGreat
