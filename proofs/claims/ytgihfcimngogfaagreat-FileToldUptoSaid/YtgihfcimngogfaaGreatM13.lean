/- Texts of this claim, joined: FileWr1, FileWr2, FileLink, FileLink2. -/
import Derived.Test.YtgihfcimngogfaaGreatM8
import Derived.Test.YtgihfcimngogfaaGreatJFileRef7
import Derived.Deep.AppendLies
import Derived.Deep.RegionLaw
import Derived.Test.YtgihfcimngogfaaGreatM7
namespace Go.Proofs.YtgihfcimngogfaaGreat
open Go.RowKit Go
set_option linter.unusedVariables false
def byV (l : Bs) : List Value := l.map fun c => .int .u8 (c.toNat : Int)
theorem byV_app (a b : Bs) : byV (a ++ b) = byV a ++ byV b := by simp [byV]
theorem infoU8 : (Tryz.prog.info? 5).map (fun i => (i.zero, i.size, i.bytes)) = some (some (.int .u8 0), 1, 1) := by kernel_rfl
def Wo (B M : Nat) (pv : Value) (w : World) (o : Ou) : Prop := ∃ v, w.heap[M]? = some (.cells #[v, pv, .bool o.2] 52 (0, 0)) ∧ w.ownsRow B 5 1 v o.1.length (byV o.1)
abbrev tW : List TypeId := [39, 27, 57, 62, 88, 74, 9]
theorem grownBelow {B : Nat} {w w' : World} {row : Option Nat} (hg : w.grownBy w' row) (hr : ∀ k, row = some k → B ≤ k) (hB : B ≤ w.heap.size) : Below B w w' :=
 ⟨hg.os, hg.tape, hg.output, hg.size, fun k hk => hg.block k (by omega) (fun e => by have := hr k e.symm; omega)⟩
theorem u8_wrap (y : Int) : IntKind.u8.wrap y = y % 256 := by
 simp [IntKind.wrap, IntKind.bits, IntKind.signed]
theorem byI_pow (x : Int) (i : Nat) (d : Int) (h : (2 : Int) ^ (8 * i) = d) : ((byI x i).toNat : Int) = IntKind.u8.wrap (x / d) := by
 rw [byI_nat, h]
 exact (u8_wrap _).symm
theorem num_way (x : Int) (k : Nat) (hk : k ≤ 8) : k = 0 ∨ (k = 1 ∧ IntKind.i64.wrap 0 = 0 ∧ ∃ (y : UInt8) (j : Nat), Hid (j = 0) ∧ Hid (IntKind.u8.wrap x = (y.toNat : Int)) ∧ Hid (beW 1 x = y :: beW j x)) ∨ (k = 2 ∧ IntKind.i64.wrap 8 = 8 ∧ ∃ (y : UInt8) (j : Nat), Hid (j = 1) ∧ Hid (IntKind.u8.wrap (x / 256) = (y.toNat : Int)) ∧ Hid (beW 2 x = y :: beW j x)) ∨ (k = 3 ∧ IntKind.i64.wrap 16 = 16 ∧ ∃ (y : UInt8) (j : Nat), Hid (j = 2) ∧ Hid (IntKind.u8.wrap (x / 65536) = (y.toNat : Int)) ∧ Hid (beW 3 x = y :: beW j x)) ∨ (k = 4 ∧ IntKind.i64.wrap 24 = 24 ∧ ∃ (y : UInt8) (j : Nat), Hid (j = 3) ∧ Hid (IntKind.u8.wrap (x / 16777216) = (y.toNat : Int)) ∧ Hid (beW 4 x = y :: beW j x)) ∨ (k = 5 ∧ IntKind.i64.wrap 32 = 32 ∧ ∃ (y : UInt8) (j : Nat), Hid (j = 4) ∧ Hid (IntKind.u8.wrap (x / 4294967296) = (y.toNat : Int)) ∧ Hid (beW 5 x = y :: beW j x)) ∨ (k = 6 ∧ IntKind.i64.wrap 40 = 40 ∧ ∃ (y : UInt8) (j : Nat), Hid (j = 5) ∧ Hid (IntKind.u8.wrap (x / 1099511627776) = (y.toNat : Int)) ∧ Hid (beW 6 x = y :: beW j x)) ∨ (k = 7 ∧ IntKind.i64.wrap 48 = 48 ∧ ∃ (y : UInt8) (j : Nat), Hid (j = 6) ∧ Hid (IntKind.u8.wrap (x / 281474976710656) = (y.toNat : Int)) ∧ Hid (beW 7 x = y :: beW j x)) ∨ (k = 8 ∧ IntKind.i64.wrap 56 = 56 ∧ ∃ (y : UInt8) (j : Nat), Hid (j = 7) ∧ Hid (IntKind.u8.wrap (x / 72057594037927936) = (y.toNat : Int)) ∧ Hid (beW 8 x = y :: beW j x)) := by
 have hks : k = 0 ∨ k = 1 ∨ k = 2 ∨ k = 3 ∨ k = 4 ∨ k = 5 ∨ k = 6 ∨ k = 7 ∨ k = 8 := by omega
 rcases hks with rfl | rfl | rfl | rfl | rfl | rfl | rfl | rfl | rfl
 ·exact .inl rfl
 ·exact .inr (.inl ⟨rfl, rfl, byI x 0, 0, lhid rfl, lhid ((byI_pow x 0 1 (by decide)).trans (by rw [Int.ediv_one])).symm, lhid rfl⟩)
 ·exact .inr (.inr (.inl ⟨rfl, rfl, byI x 1, 1, lhid rfl, lhid (byI_pow x 1 256 (by decide)).symm, lhid rfl⟩))
 ·exact .inr (.inr (.inr (.inl ⟨rfl, rfl, byI x 2, 2, lhid rfl, lhid (byI_pow x 2 65536 (by decide)).symm, lhid rfl⟩)))
 ·exact .inr (.inr (.inr (.inr (.inl ⟨rfl, rfl, byI x 3, 3, lhid rfl, lhid (byI_pow x 3 16777216 (by decide)).symm, lhid rfl⟩))))
 ·exact .inr (.inr (.inr (.inr (.inr (.inl ⟨rfl, rfl, byI x 4, 4, lhid rfl, lhid (byI_pow x 4 4294967296 (by decide)).symm, lhid rfl⟩)))))
 ·exact .inr (.inr (.inr (.inr (.inr (.inr (.inl ⟨rfl, rfl, byI x 5, 5, lhid rfl, lhid (byI_pow x 5 1099511627776 (by decide)).symm, lhid rfl⟩))))))
 ·exact .inr (.inr (.inr (.inr (.inr (.inr (.inr (.inl ⟨rfl, rfl, byI x 6, 6, lhid rfl, lhid (byI_pow x 6 281474976710656 (by decide)).symm, lhid rfl⟩)))))))
 ·exact .inr (.inr (.inr (.inr (.inr (.inr (.inr (.inr (⟨rfl, rfl, byI x 7, 7, lhid rfl, lhid (byI_pow x 7 72057594037927936 (by decide)).symm, lhid rfl⟩))))))))
set_option maxHeartbeats 16000000 in
set_option maxRecDepth 100000 in
theorem wnum_any (B M : Nat) (pv : Value) (n : Nat) (x : Int) (o : Ou) (w : World) (h : Hid (Wo B M pv w o)) (hn : n ≤ 8) (hB : B ≤ w.heap.size) (hBM : B ≤ M) (hl : o.1.length ≤ 70368744177664) :
  Calls Tryz.prog 23 #[.pointer (some ⟨M, 0, none⟩), .int .i64 n, .int .i64 x] w fun e w' => e = .returned (.tuple #[]) ∧ Wo B M pv w' (wNum n x o) ∧ Below B w w' ∧ Stay tW w w' := by
 obtain ⟨v, HM0, HW0⟩ := h.out
 obtain ⟨A0, c0, rfl⟩ := own_shape HW0
 have HMx := lhid HM0
 have HWx := lhid HW0
 obtain ⟨i0, hi0, hz0, hz1, hz2⟩ := info_parts infoU8
 clear HM0 HW0 h
 go_enter Tryz.func23, Tryz.ntmps23
 go_wp2_with fail
 go_loopw [6] (fun i wr => ∃ (k : Nat) (l : Bs) (A : Option Addr) (c : Nat), i = .int .i64 ((k : Int) - 1) ∧ k ≤ n ∧ l.length + k ≤ o.1.length + n ∧ Hid (wr.heap[M]? = some (.cells #[.slice A l.length c, pv, .bool o.2] 52 (0, 0))) ∧ Hid (wr.ownsRow B 5 1 (.slice A l.length c) l.length (byV l)) ∧ Hid (Below B w wr) ∧ Hid (Stay tW w wr) ∧ Hid (l ++ beW k x = o.1 ++ beW n x)) (fun i _ => (intOf i + 1).toNat)
 case atStart => exact ⟨n, o.1, A0, c0, rfl, Nat.le_refl _, Nat.le_refl _, HMx, HWx, lhid (Below.refl _ _), lhid (Stay.refl _ _), lhid rfl⟩
 case round =>
  obtain ⟨k, l, A, c, rfl, hk, hll, HMr, HWr, HBr, HSr, HE⟩ := hrel
  clear HMx HWx
  rcases num_way x k (by omega) with rfl | ⟨rfl, wl, y, j, HJ, HV, HY⟩ | ⟨rfl, wl, y, j, HJ, HV, HY⟩ | ⟨rfl, wl, y, j, HJ, HV, HY⟩ | ⟨rfl, wl, y, j, HJ, HV, HY⟩ | ⟨rfl, wl, y, j, HJ, HV, HY⟩ | ⟨rfl, wl, y, j, HJ, HV, HY⟩ | ⟨rfl, wl, y, j, HJ, HV, HY⟩ | ⟨rfl, wl, y, j, HJ, HV, HY⟩
  ·go_wp2_with fail
   go_end0
   have he := HE.out
   rw [beW, List.append_nil] at he
   subst he
   exact ⟨rfl, ⟨.slice A (o.1 ++ beW n x).length c, HMr.out, HWr.out⟩, HBr.out, HSr.out⟩
  all_goals (
   have m0 := heap_cell (i := 0) HMr.out rfl
   have mz := heap_thaw HMr.out 0
   have h63 : l.length + 1 ≤ maxLen := by unfold maxLen; omega
   have hby : (l.length + 1) * 1 ≤ 140737488355328 := by omega
   have H1C : Hid (∀ u ∈ ([.int .u8 (y.toNat : Int)] : List Value), u.oneCell' = true) := lhid (by intro u hu; simp at hu; subst hu; rfl)
   go_upto_region 3 with fail
   refine wp_region_any (by kernel_rfl) ?_
   try (change wpAny _ _ _ _ _ _ _ (World.drew _))
   refine wpAny_take (i := 0) (v := ?_) rfl (by kernel_rfl) (by kernel_rfl) (by kernel_rfl) (fun _ _ _ h => h) (Or.inl ⟨by rfl, ?_⟩) ?_
   rotate_left
   ·intro w; (first | (go_simp; done) | (go_simp; with_reducible rfl))
   refine wpAny_take (i := 1) (v := ?_) rfl (by kernel_rfl) (by kernel_rfl) (by kernel_rfl) (fun _ _ _ h => h) (Or.inl ⟨by rfl, ?_⟩) ?_
   rotate_left
   ·intro w; (first | (go_simp; done) | (go_simp; with_reducible rfl))
   refine wpAny_take (i := 2) (v := ?_) rfl (by kernel_rfl) (by kernel_rfl) (by kernel_rfl) (fun _ _ _ h => h) (Or.inl ⟨by rfl, ?_⟩) ?_
   rotate_left
   ·intro w; (first | (go_simp; done) | (go_simp; with_reducible rfl))
   refine wpAny_take (i := 3) (v := ?_) rfl (by kernel_rfl) (by kernel_rfl) (by kernel_rfl) (fun _ _ _ h => h) (Or.inl ⟨by rfl, ?_⟩) ?_
   rotate_left
   ·intro w; (first | (go_simp; done) | (go_simp; with_reducible rfl))
   refine wpAny_take (i := 5) (v := ?_) rfl (by kernel_rfl) (by kernel_rfl) (by kernel_rfl) (fun _ _ _ h => h) (Or.inl ⟨by rfl, ?_⟩) ?_
   rotate_left
   ·intro w; (first | (go_simp; done) | (go_simp; with_reducible rfl))
   refine wpAny_take (i := 6) (v := ?_) rfl (by kernel_rfl) (by kernel_rfl) (by kernel_rfl) (fun _ _ _ h => h) (Or.inl ⟨by rfl, ?_⟩) ?_
   rotate_left
   ·intro w; (first | (go_simp; done) | (go_simp; with_reducible rfl))
   refine wpAny_take (i := 7) (v := ?_) rfl (by kernel_rfl) (by kernel_rfl) (by kernel_rfl) (fun _ _ _ h => h) (Or.inl ⟨by rfl, ?_⟩) ?_
   rotate_left
   ·intro w; (first | (go_simp; done) | (go_simp; with_reducible rfl))
   refine wpAny_take (i := 8) (v := ?_) rfl (by kernel_rfl) (by kernel_rfl) (by kernel_rfl) (fun _ _ _ h => h) (Or.inl ⟨by rfl, ?_⟩) ?_
   rotate_left
   ·intro w; (first | (go_simp; done) | (go_simp; with_reducible rfl))
   refine wpAny_take (i := 9) (v := ?_) rfl (by kernel_rfl) (by kernel_rfl) (by kernel_rfl) (fun _ _ _ h => h) (Or.inl ⟨by rfl, ?_⟩) ?_
   rotate_left
   ·intro w; (first | (go_simp; done) | (go_simp; with_reducible rfl))
   refine wpAny_ready (rs := [4, 10]) (by kernel_rfl) (by simp) ?_
   refine AllReady.cons rfl (fun K hK => ?_) (AllReady.cons rfl (fun K hK => ?_) AllReady.nil)
   ·go_simp
    refine hK _ _ ?_
    clear hK K
    refine wpAny_ready (rs := [10]) (by kernel_rfl) (by simp) ?_
    refine AllReady.cons rfl (fun K hK => ?_) AllReady.nil
    go_simp
    refine hK _ _ ?_
    clear hK K
    rw [HV.out]
    have HMa : Hid ((wr.alloc (.cells #[.int .u8 (y.toNat : Int)] 5 (0, 0))).drew.heap[M]? = some (.cells #[.slice A l.length c, pv, .bool o.2] 52 (0, 0))) := lhid ((Below.heap_alloc wr (.cells #[.int .u8 (y.toNat : Int)] 5 (0, 0)) _ (heap_lt HMr.out)).trans HMr.out)
    have HWa : Hid ((wr.alloc (.cells #[.int .u8 (y.toNat : Int)] 5 (0, 0))).drew.ownsRow B 5 1 (.slice A l.length c) l.length (byV l)) := lhid (own_far (HWr.out.alloc (.cells #[.int .u8 (y.toNat : Int)] 5 (0, 0))) (w' := (wr.alloc (.cells #[.int .u8 (y.toNat : Int)] 5 (0, 0))).drew) fun _ _ => rfl)
    have HBa : Hid (Below B w (wr.alloc (.cells #[.int .u8 (y.toNat : Int)] 5 (0, 0))).drew) := lhid ((HBr.out.alloc (Nat.le_trans hB HBr.out.size) (.cells #[.int .u8 (y.toNat : Int)] 5 (0, 0))).drew)
    have HSa : Hid (Stay tW w (wr.alloc (.cells #[.int .u8 (y.toNat : Int)] 5 (0, 0))).drew) := lhid ((HSr.out.alloc (.cells #[.int .u8 (y.toNat : Int)] 5 (0, 0))).drew)
    have HNa : Hid ((wr.alloc (.cells #[.int .u8 (y.toNat : Int)] 5 (0, 0))).drew.heap[wr.heap.size]? = some (.cells #[.int .u8 (y.toNat : Int)] 5 (0, 0))) := lhid (heap_alloc_new wr (.cells #[.int .u8 (y.toNat : Int)] 5 (0, 0)))
    have m0a := heap_cell (i := 0) HMa.out rfl
    refine wpAny_ready (rs := [11]) (by kernel_rfl) (by simp) ?_
    refine AllReady.cons rfl (fun K hK => ?_) AllReady.nil
    refine step_append_lies _ rfl (.tmp 17) (.tmp 23) 28 rfl B 5 i0 (.int .u8 0) 1 1 Tryz.underlying28 hi0 hz0 hz1 hz2 rfl (by decide) (.slice A l.length c) l.length (byV l) rfl HWa.out _ 1 _ [.int .u8 (y.toNat : Int)] rfl rfl (World.news_of_block HNa.out) H1C.out (by decide) h63 hby (Nat.le_trans hB HBa.out.size) _ rfl ?_
    intro g cap w6 hown hgrow hat hlt6
    have hge := own_lt HWa.out
    have hM6 : w6.heap[M]? = some (.cells #[.slice A l.length c, pv, .bool o.2] 52 (0, 0)) := (grown_stay (Ts := [52]) hgrow HWa.out (by decide)) M _ _ _ (by simp) HMa.out
    have q6 := heap_cell (i := 0) hM6 rfl
    have z6 := heap_thaw hM6 0
    refine hK _ _ ?_
    clear hK K
    refine wpAny_take (i := 12) (v := ?_) rfl (by kernel_rfl) (by kernel_rfl) (by kernel_rfl) (fun _ _ _ h => h) (Or.inl ⟨by rfl, ?_⟩) ?_
    rotate_left
    ·intro w; (first | (go_simp; done) | (go_simp; with_reducible rfl))
    refine wpAny_take (i := 13) (v := ?_) rfl (by kernel_rfl) (by kernel_rfl) (by kernel_rfl) (fun _ _ _ h => h) (Or.inl ⟨by rfl, ?_⟩) ?_
    rotate_left
    ·intro w; (first | (go_simp; done) | (go_simp; with_reducible rfl))
    refine wpAny_ready (rs := [14]) (by kernel_rfl) (by simp) ?_
    refine AllReady.cons rfl (fun K hK => ?_) AllReady.nil
    go_simp
    refine hK _ _ ?_
    clear hK K
    refine wpAny_done (by kernel_rfl) ?_ _
    have hcap : byV (l ++ [y]) = byV l ++ [.int .u8 (y.toNat : Int)] := by rw [byV_app]; rfl
    have HMn : Hid ((w6.setCell ⟨M, 0, none⟩ (.slice (some ⟨g, 0, none⟩) (l.length + 1) cap)).heap[M]? = some (.cells #[.slice (some ⟨g, 0, none⟩) (l.length + 1) cap, pv, .bool o.2] 52 (0, 0))) := lhid (heap_set hM6 _)
    have HWn : Hid ((w6.setCell ⟨M, 0, none⟩ (.slice (some ⟨g, 0, none⟩) (l.length + 1) cap)).ownsRow B 5 1 (.slice (some ⟨g, 0, none⟩) (l.length + 1) cap) (l.length + 1) (byV (l ++ [y]))) := lhid (by rw [hcap]; exact own_stay hown ((Stay.refl [5] w6).set (p := ⟨M, 0, none⟩) hM6 (by decide) _) (by simp))
    have HBn : Hid (Below B w (w6.setCell ⟨M, 0, none⟩ (.slice (some ⟨g, 0, none⟩) (l.length + 1) cap))) := lhid ((HBa.out.trans (grownBelow hgrow hge (Nat.le_trans hB HBa.out.size))).setCell (p := ⟨M, 0, none⟩) hBM _)
    have HSn : Hid (Stay tW w (w6.setCell ⟨M, 0, none⟩ (.slice (some ⟨g, 0, none⟩) (l.length + 1) cap))) := lhid ((HSa.out.trans (grown_stay hgrow HWa.out (by decide))).set (p := ⟨M, 0, none⟩) hM6 (by decide) _)
    clear hown hgrow hat hge hlt6 hM6 q6 z6 hcap
    go_wp2
    go_roundw
    case rel =>
     have hlen : (l ++ [y]).length = l.length + 1 := by simp
     have hj := HJ.out; refine ⟨j, l ++ [y], some ⟨g, 0, none⟩, cap, by subst hj; simp, by omega, by rw [hlen]; omega, lhid (by rw [hlen]; exact HMn.out), lhid (by rw [hlen]; exact HWn.out), HBn, HSn, lhid ?_⟩
     rw [← HE.out, HY.out, List.append_assoc]
     rfl
    case measure => simp [intOf]
   ·go_simp
    refine hK _ _ ?_
    clear hK K
    rw [HV.out]
    have HMa : Hid ((wr.alloc (.cells #[.int .u8 (y.toNat : Int)] 5 (0, 0))).drew.heap[M]? = some (.cells #[.slice A l.length c, pv, .bool o.2] 52 (0, 0))) := lhid ((Below.heap_alloc wr (.cells #[.int .u8 (y.toNat : Int)] 5 (0, 0)) _ (heap_lt HMr.out)).trans HMr.out)
    have HWa : Hid ((wr.alloc (.cells #[.int .u8 (y.toNat : Int)] 5 (0, 0))).drew.ownsRow B 5 1 (.slice A l.length c) l.length (byV l)) := lhid (own_far (HWr.out.alloc (.cells #[.int .u8 (y.toNat : Int)] 5 (0, 0))) (w' := (wr.alloc (.cells #[.int .u8 (y.toNat : Int)] 5 (0, 0))).drew) fun _ _ => rfl)
    have HBa : Hid (Below B w (wr.alloc (.cells #[.int .u8 (y.toNat : Int)] 5 (0, 0))).drew) := lhid ((HBr.out.alloc (Nat.le_trans hB HBr.out.size) (.cells #[.int .u8 (y.toNat : Int)] 5 (0, 0))).drew)
    have HSa : Hid (Stay tW w (wr.alloc (.cells #[.int .u8 (y.toNat : Int)] 5 (0, 0))).drew) := lhid ((HSr.out.alloc (.cells #[.int .u8 (y.toNat : Int)] 5 (0, 0))).drew)
    have HNa : Hid ((wr.alloc (.cells #[.int .u8 (y.toNat : Int)] 5 (0, 0))).drew.heap[wr.heap.size]? = some (.cells #[.int .u8 (y.toNat : Int)] 5 (0, 0))) := lhid (heap_alloc_new wr (.cells #[.int .u8 (y.toNat : Int)] 5 (0, 0)))
    have m0a := heap_cell (i := 0) HMa.out rfl
    refine wpAny_ready (rs := [4]) (by kernel_rfl) (by simp) ?_
    refine AllReady.cons rfl (fun K hK => ?_) AllReady.nil
    go_simp
    refine hK _ _ ?_
    clear hK K
    refine wpAny_ready (rs := [11]) (by kernel_rfl) (by simp) ?_
    refine AllReady.cons rfl (fun K hK => ?_) AllReady.nil
    refine step_append_lies _ rfl (.tmp 17) (.tmp 23) 28 rfl B 5 i0 (.int .u8 0) 1 1 Tryz.underlying28 hi0 hz0 hz1 hz2 rfl (by decide) (.slice A l.length c) l.length (byV l) rfl HWa.out _ 1 _ [.int .u8 (y.toNat : Int)] rfl rfl (World.news_of_block HNa.out) H1C.out (by decide) h63 hby (Nat.le_trans hB HBa.out.size) _ rfl ?_
    intro g cap w6 hown hgrow hat hlt6
    have hge := own_lt HWa.out
    have hM6 : w6.heap[M]? = some (.cells #[.slice A l.length c, pv, .bool o.2] 52 (0, 0)) := (grown_stay (Ts := [52]) hgrow HWa.out (by decide)) M _ _ _ (by simp) HMa.out
    have q6 := heap_cell (i := 0) hM6 rfl
    have z6 := heap_thaw hM6 0
    refine hK _ _ ?_
    clear hK K
    refine wpAny_take (i := 12) (v := ?_) rfl (by kernel_rfl) (by kernel_rfl) (by kernel_rfl) (fun _ _ _ h => h) (Or.inl ⟨by rfl, ?_⟩) ?_
    rotate_left
    ·intro w; (first | (go_simp; done) | (go_simp; with_reducible rfl))
    refine wpAny_take (i := 13) (v := ?_) rfl (by kernel_rfl) (by kernel_rfl) (by kernel_rfl) (fun _ _ _ h => h) (Or.inl ⟨by rfl, ?_⟩) ?_
    rotate_left
    ·intro w; (first | (go_simp; done) | (go_simp; with_reducible rfl))
    refine wpAny_ready (rs := [14]) (by kernel_rfl) (by simp) ?_
    refine AllReady.cons rfl (fun K hK => ?_) AllReady.nil
    go_simp
    refine hK _ _ ?_
    clear hK K
    refine wpAny_done (by kernel_rfl) ?_ _
    have hcap : byV (l ++ [y]) = byV l ++ [.int .u8 (y.toNat : Int)] := by rw [byV_app]; rfl
    have HMn : Hid ((w6.setCell ⟨M, 0, none⟩ (.slice (some ⟨g, 0, none⟩) (l.length + 1) cap)).heap[M]? = some (.cells #[.slice (some ⟨g, 0, none⟩) (l.length + 1) cap, pv, .bool o.2] 52 (0, 0))) := lhid (heap_set hM6 _)
    have HWn : Hid ((w6.setCell ⟨M, 0, none⟩ (.slice (some ⟨g, 0, none⟩) (l.length + 1) cap)).ownsRow B 5 1 (.slice (some ⟨g, 0, none⟩) (l.length + 1) cap) (l.length + 1) (byV (l ++ [y]))) := lhid (by rw [hcap]; exact own_stay hown ((Stay.refl [5] w6).set (p := ⟨M, 0, none⟩) hM6 (by decide) _) (by simp))
    have HBn : Hid (Below B w (w6.setCell ⟨M, 0, none⟩ (.slice (some ⟨g, 0, none⟩) (l.length + 1) cap))) := lhid ((HBa.out.trans (grownBelow hgrow hge (Nat.le_trans hB HBa.out.size))).setCell (p := ⟨M, 0, none⟩) hBM _)
    have HSn : Hid (Stay tW w (w6.setCell ⟨M, 0, none⟩ (.slice (some ⟨g, 0, none⟩) (l.length + 1) cap))) := lhid ((HSa.out.trans (grown_stay hgrow HWa.out (by decide))).set (p := ⟨M, 0, none⟩) hM6 (by decide) _)
    clear hown hgrow hat hge hlt6 hM6 q6 z6 hcap
    go_wp2
    go_roundw
    case rel =>
     have hlen : (l ++ [y]).length = l.length + 1 := by simp
     have hj := HJ.out; refine ⟨j, l ++ [y], some ⟨g, 0, none⟩, cap, by subst hj; simp, by omega, by rw [hlen]; omega, lhid (by rw [hlen]; exact HMn.out), lhid (by rw [hlen]; exact HWn.out), HBn, HSn, lhid ?_⟩
     rw [← HE.out, HY.out, List.append_assoc]
     rfl
    case measure => simp [intOf])
end Go.Proofs.YtgihfcimngogfaaGreat
namespace Go.Proofs.YtgihfcimngogfaaGreat
open Go.RowKit Go
set_option linter.unusedVariables false
theorem Wo.below {B M : Nat} {pv : Value} {w w' : World} {o : Ou} (h : Wo B M pv w o) (hb : Below w.heap.size w w') : Wo B M pv w' o := by
 obtain ⟨v, h1, h2⟩ := h
 exact ⟨v, (hb.block M (heap_lt h1)).trans h1, own_far h2 fun g hg => hb.block g (h2.lt g hg).2⟩
theorem tx_eqb2 {a b : Bs} (h : a = b) : ((tx a).toList == (tx b).toList) = true := by rw [h]; simp
theorem tx_neb2 {a b : Bs} (h : ¬ a = b) : ((tx a).toList == (tx b).toList) = false := by rw [beq_eq_false_iff_ne]; exact tx_ne h
theorem below_lt {B B' : Nat} {a w : World} (h : Below B a w) (hb : B' ≤ B) : Below B' a w := ⟨h.os, h.tape, h.output, h.size, fun k hk => h.block k (by omega)⟩
set_option maxHeartbeats 8000000 in
set_option maxRecDepth 100000 in
theorem wfind_any (B M : Nat) (pv : Value) (L : List CoI) (k : Int) (t : Bs) (o : Ou) (w : World) (h : Hid (Wo B M pv w o)) (hp : Hid (RdL 5 CoIE w pv L)) (hB : B ≤ w.heap.size) (hBM : B ≤ M) :
  Calls Tryz.prog 25 #[.pointer (some ⟨M, 0, none⟩), .int .i64 k, .string (tx t)] w fun e w' => e = .returned (.int .i64 (wFind L k t o).1) ∧ Wo B M pv w' (wFind L k t o).2 ∧ Below B w w' ∧ Stay tW w w' := by
 obtain ⟨pA, pc, rfl⟩ := hp.out.shape
 have hlen := hp.out.len
 obtain ⟨v, HM0, HW0⟩ := h.out
 have HM := lhid HM0
 have HW := lhid HW0
 clear HM0 HW0
 have HF : Hid (∃ r, fnd L k t = r) := lhid ⟨_, rfl⟩
 go_enter Tryz.func25, Tryz.ntmps25
 go_wp2_with fail
 go_loopw [7] (fun i wr => ∃ j : Nat, i = .int .i64 j ∧ 1 ≤ j ∧ j ≤ L.length + 1 ∧ Hid (Below w.heap.size w wr) ∧ Hid (findC k t (L.drop j) j = fnd L k t)) (fun i _ => L.length + 1 - (intOf i).toNat)
 case atStart => exact ⟨1, rfl, Nat.le_refl _, by omega, lhid (Below.refl _ _), lhid rfl⟩
 case round =>
  obtain ⟨j, rfl, hj1, hj2, HBr, HE⟩ := hrel
  have HMr : Hid (wr.heap[M]? = some (.cells #[v, .slice pA L.length pc, .bool o.2] 52 (0, 0))) := lhid ((HBr.out.block M (heap_lt HM.out)).trans HM.out)
  have m1 := heap_cell (i := 1) HMr.out rfl
  have mz2 := heap_thaw HMr.out 2
  have m2 := heap_cell (i := 2) HMr.out rfl
  by_cases hlt : j < L.length
  ·obtain ⟨x, hx⟩ : ∃ x, L[j]? = some x := ⟨_, List.getElem?_eq_getElem hlt⟩
   obtain ⟨g, o', c, rfl, rfl, hc⟩ := (hp.out.below kept_co HBr.out).at' hx
   have a0 := hc 0 _ rfl
   have a1 := hc 1 _ rfl
   have a2 := hc 2 _ rfl
   have a3 := hc 3 _ rfl
   have a4 := hc 4 _ rfl
   rw [Nat.add_zero] at a0
   have k3 : (j : Int) < L.length := by omega
   have k0 : (0 : Int) ≤ j := by omega
   have HXX := lhid hx
   clear hc hx
   have HN1 : Hid (Below w.heap.size w (wr.alloc (.cells #[.int .i64 x.kind, .int .i64 x.num, .string (tx x.text), .string (tx x.name), .string (tx x.desc)] 39))) := lhid (HBr.out.alloc HBr.out.size _)
   by_cases e0 : x.kind = k
   case neg =>
    have hno : isC k t x = false := by simp [isC, e0]
    have HST := lhid ((findC_step HXX.out hno).symm.trans HE.out)
    have f0 : (x.kind == k) = false := by rw [beq_eq_false_iff_ne]; exact e0
    clear e0 hno
    go_wp2_with fail
    go_roundw
    case rel => exact ⟨j + 1, by go_num, by omega, by omega, HN1, HST⟩
    case measure => simp [intOf]; omega
   by_cases e1 : x.text = t
   case neg =>
    have hno : isC k t x = false := by simp [isC, e1]
    have HST := lhid ((findC_step HXX.out hno).symm.trans HE.out)
    have f0 : (x.kind == k) = true := by rw [beq_iff_eq]; exact e0
    have f1 := tx_neb2 e1
    clear e0 e1 hno
    go_wp2_with fail
    go_roundw
    case rel => exact ⟨j + 1, by go_num, by omega, by omega, HN1, HST⟩
    case measure => simp [intOf]; omega
   by_cases e2 : x.num = 0
   case neg =>
    have hno : isC k t x = false := by simp [isC, e2]
    have HST := lhid ((findC_step HXX.out hno).symm.trans HE.out)
    have f0 : (x.kind == k) = true := by rw [beq_iff_eq]; exact e0
    have f1 := tx_eqb2 e1
    have f2 : (x.num == 0) = false := by rw [beq_eq_false_iff_ne]; exact e2
    clear e0 e1 e2 hno
    go_wp2_with fail
    go_roundw
    case rel => exact ⟨j + 1, by go_num, by omega, by omega, HN1, HST⟩
    case measure => simp [intOf]; omega
   by_cases e3 : x.name = []
   case neg =>
    have hno : isC k t x = false := by simp [isC, e3]
    have HST := lhid ((findC_step HXX.out hno).symm.trans HE.out)
    have f0 : (x.kind == k) = true := by rw [beq_iff_eq]; exact e0
    have f1 := tx_eqb2 e1
    have f2 : (x.num == 0) = true := by rw [beq_iff_eq]; exact e2
    have f3 : ((tx x.name).toList == []) = false := by rw [beq_eq_false_iff_ne, tx_toL]; exact e3
    clear e0 e1 e2 e3 hno
    go_wp2_with fail
    go_roundw
    case rel => exact ⟨j + 1, by go_num, by omega, by omega, HN1, HST⟩
    case measure => simp [intOf]; omega
   by_cases e4 : x.desc = []
   case neg =>
    have hno : isC k t x = false := by simp [isC, e4]
    have HST := lhid ((findC_step HXX.out hno).symm.trans HE.out)
    have f0 : (x.kind == k) = true := by rw [beq_iff_eq]; exact e0
    have f1 := tx_eqb2 e1
    have f2 : (x.num == 0) = true := by rw [beq_iff_eq]; exact e2
    have f3 : ((tx x.name).toList == []) = true := by rw [beq_iff_eq, tx_toL]; exact e3
    have f4 : ((tx x.desc).toList == []) = false := by rw [beq_eq_false_iff_ne, tx_toL]; exact e4
    clear e0 e1 e2 e3 e4 hno
    go_wp2_with fail
    go_roundw
    case rel => exact ⟨j + 1, by go_num, by omega, by omega, HN1, HST⟩
    case measure => simp [intOf]; omega
   have hyes : isC k t x = true := by simp [isC, e0, e1, e2, e3, e4]
   have hw : wFind L k t o = (j, o) := by unfold wFind; rw [← HE.out, findC_hit HXX.out hyes]
   have HWF := lhid hw
   have f0 : (x.kind == k) = true := by rw [beq_iff_eq]; exact e0
   have f1 := tx_eqb2 e1
   have f2 : (x.num == 0) = true := by rw [beq_iff_eq]; exact e2
   have f3 : ((tx x.name).toList == []) = true := by rw [beq_iff_eq, tx_toL]; exact e3
   have f4 : ((tx x.desc).toList == []) = true := by rw [beq_iff_eq, tx_toL]; exact e4
   clear e0 e1 e2 e3 e4 hw hyes
   go_wp2_with fail
   go_ret
   rw [HWF.out]
   exact ⟨rfl, (show Wo B M _ w o from ⟨v, HM.out, HW.out⟩).below HN1.out, below_lt HN1.out hB, Stay.below HN1.out⟩
  ·have k3 : ¬ (j : Int) < L.length := by omega
   have hw : wFind L k t o = (0, (o.1, true)) := by unfold wFind; rw [← HE.out, findC_end (by omega)]
   have HWF := lhid hw
   clear hw
   go_wp2_with fail
   go_ret
   rw [HWF.out]
   refine ⟨rfl, ⟨v, heap_set HMr.out _, ?_⟩, (below_lt HBr.out hB).setCell (p := ⟨M, 2, none⟩) hBM _, (Stay.below HBr.out).set (p := ⟨M, 2, none⟩) HMr.out (by decide) _⟩
   exact own_stay (own_far HW.out fun g hg => HBr.out.block g (HW.out.lt g hg).2) ((Stay.refl [5] wr).set (p := ⟨M, 2, none⟩) HMr.out (by decide) _) (by simp)
end Go.Proofs.YtgihfcimngogfaaGreat
namespace Go.Proofs.YtgihfcimngogfaaGreat
open Go Go.RowKit
set_option linter.unusedVariables false
abbrev g0 (s : Bs) : Sg := (0, (s, false))
def Lk {α : Type} (p : Pr α) (q : α × Sg) : Prop := match p with
 | .ok a r => q = (a, g0 r)
 | .er x => x ≠ 0 ∧ q.2.1 = x
theorem Lk.bind {α β : Type} {p : Pr α} {q : α × Sg} (h : Lk p q) (k : α → Bs → Pr β) (K : α × Sg → β × Sg) (h1 : ∀ a r, p = .ok a r → Lk (k a r) (K (a, g0 r))) (h2 : q.2.1 ≠ 0 → (K q).2.1 = q.2.1) : Lk (p.then k) (K q) := by
 cases p with
 | ok a r =>
  have h' : q = (a, g0 r) := h
  subst h'
  exact h1 a r rfl
 | er x =>
  have h' : x ≠ 0 ∧ q.2.1 = x := h
  exact ⟨h'.1, (h2 (by rw [h'.2]; exact h'.1)).trans h'.2⟩
theorem wrS_stay {x : Nat} {σ : Sg} (h : σ.1 ≠ 0) : (wrS x σ).1 = σ.1 := by rw [wrS_bad x h]
theorem lk_num (n : Nat) (s : Bs) (hn : 1 ≤ n ∧ n ≤ 8) : Lk (numP n s) (rNum n (g0 s)) := by
 have h0 : ¬ ((n : Int) < 1 ∨ 8 < (n : Int)) := by omega
 unfold numP rNum
 rw [if_neg (show ¬ (g0 s).1 ≠ 0 by simp), numS_yes h0, numN_yes h0]
 by_cases h : s.length < n
 ·rw [if_pos h, takeS_no (by simp; omega), if_pos rfl]
  exact ⟨by decide, rfl⟩
 ·rw [if_neg h, takeS_yes (by simp; omega), takeL_yes (by simp; omega), if_neg (by simp)]
  simp [Lk]
theorem rCnt_stay {n most : Nat} {σ : Sg} (h : σ.1 ≠ 0) : (rCnt n most σ).2.1 = σ.1 := by
 unfold rCnt
 rw [rNum_bad n h]
 split
 ·exact wrS_stay h
 ·rfl
theorem lk_cnt (n most : Nat) (s : Bs) (hn : 1 ≤ n ∧ n ≤ 8) : Lk (cntP n most s) (rCnt n most (g0 s)) := by
 unfold cntP rCnt
 refine (lk_num n s hn).bind _ (fun q => if most < q.1 then (0, wrS 2 q.2) else q) (fun a r _ => ?_) (fun h => ?_)
 ·dsimp only
  by_cases h : most < a
  ·rw [if_pos h, if_pos h]
   exact ⟨by decide, rfl⟩
  ·rw [if_neg h, if_neg h]
   rfl
 ·show (ite _ _ _ : _ × Sg).2.1 = _
  split
  ·exact wrS_stay h
  ·rfl
theorem lk_flg (b : Nat) (s : Bs) : Lk (flgP b s) (rFlg b (g0 s)) := by
 unfold flgP rFlg
 refine (lk_num 2 s (by omega)).bind _ (fun q => if q.1 &&& b = q.1 then q else (q.1, wrS 22 q.2)) (fun a r _ => ?_) (fun h => ?_)
 ·dsimp only
  by_cases h : a &&& b = a
  ·rw [if_pos h, if_pos h]
   rfl
  ·rw [if_neg h, if_neg h]
   exact ⟨by decide, rfl⟩
 ·show (ite _ _ _ : _ × Sg).2.1 = _
  split
  ·rfl
  ·exact wrS_stay h
theorem rNum_stay {n : Nat} {σ : Sg} (h : σ.1 ≠ 0) : (rNum n σ).2.1 = σ.1 := by rw [rNum_bad n h]
theorem rFlg_stay {b : Nat} {σ : Sg} (h : σ.1 ≠ 0) : (rFlg b σ).2.1 = σ.1 := by
 unfold rFlg
 rw [rNum_bad 2 h]
 split
 ·rfl
 ·exact wrS_stay h
theorem rTxt_stay {L : List Con} {k : Nat} {σ : Sg} (h : σ.1 ≠ 0) : (rTxt L k σ).2.1 = σ.1 := by
 unfold rTxt
 rw [rNum_bad 2 h, if_pos h]
theorem rCls_stay {L : List Con} {σ : Sg} (h : σ.1 ≠ 0) : (rCls L σ).2.1 = σ.1 := by
 unfold rCls
 split
 ·exact (wrS_stay (by rw [rTxt_stay h]; exact h)).trans (rTxt_stay h)
 ·exact rTxt_stay h
def txP (L : List Con) (k : Nat) (s : Bs) : Pr Bs := (conP L k s).then fun c r => .ok c.text r
theorem lk_txt {L : List Con} (k : Nat) (s : Bs) (hz : kAt L 0 k = none) : Lk (txP L k s) (rTxt L k (g0 s)) := by
 have hk : ∀ i, kAt1 L i k = kAt L i k := fun i => by
  unfold kAt1
  by_cases h : i = 0
  ·rw [if_pos h, h, hz]
  ·rw [if_neg h]
 have hn := lk_num 2 s (by omega)
 unfold txP conP rTxt
 cases hp : numP 2 s with
 | er x =>
  rw [hp] at hn
  have hn' : x ≠ 0 ∧ (rNum 2 (g0 s)).2.1 = x := hn
  rw [if_pos (by rw [hn'.2]; exact hn'.1)]
  exact hn'
 | ok i r =>
  rw [hp] at hn
  have hn' : rNum 2 (g0 s) = (i, g0 r) := hn
  rw [hn', if_neg (by simp)]
  simp only [Pr.then, hk, atP]
  cases hc : kAt L i k with
  | none => exact ⟨by decide, rfl⟩
  | some c => rfl
theorem clsP_eq (L : List Con) (s : Bs) : clsP L s = (txP L 7 s).then fun t r => flatP 20 t r := by
 unfold clsP txP
 cases conP L 7 s <;> rfl
theorem lk_cls {L : List Con} (s : Bs) (hz : kAt L 0 7 = none) : Lk (clsP L s) (rCls L (g0 s)) := by
 rw [clsP_eq]
 unfold rCls
 refine (lk_txt 7 s hz).bind _ (fun q => if q.1.head? = some 91 then (q.1, wrS 20 q.2) else q) (fun a r _ => ?_) (fun h => ?_)
 ·unfold flatP
  dsimp only
  by_cases h : a.head? = some 91
  ·rw [if_pos h, if_pos h]
   exact ⟨by decide, rfl⟩
  ·rw [if_neg h, if_neg h]
   rfl
 ·show (ite _ _ _ : _ × Sg).2.1 = _
  split
  ·exact wrS_stay h
  ·rfl
theorem manyR_stay {α : Type} {f : Sg → α × Sg} {n : Nat} {acc : List α} {σ : Sg} (h : σ.1 ≠ 0) : (manyR f n acc σ).2.1 = σ.1 := by
 cases n with
 | zero => rfl
 | succ n => rw [manyR, if_pos h]
theorem lk_many {α : Type} {p : Bs → Pr α} {f : Sg → α × Sg} (hpf : ∀ s, Lk (p s) (f (g0 s))) : ∀ (n : Nat) (s : Bs) (acc : List α), Lk (manyP p n s acc) (manyR f n acc (g0 s))
 | 0, s, acc => rfl
 | n + 1, s, acc => by
  rw [manyP, manyR, if_neg (by simp)]
  exact (hpf s).bind _ (fun q => manyR f n (acc ++ [q.1]) q.2) (fun a r _ => lk_many hpf n r _) (fun h => manyR_stay h)
def mtP (m : Bool) (x : Bs × Bs) (s : Bs) : Pr (Bs × Bs) := if nameB x.1 m = false then .er 20 else if (m = true ∧ (metB x.2).isSome = false) ∨ (m = false ∧ typeB x.2 = false) then .er 21 else .ok x s
theorem rMem_stay {L : List Con} {m : Bool} {σ : Sg} (h : σ.1 ≠ 0) : (rMem L m σ).2.1 = σ.1 := by
 have h1 := rTxt_stay (L := L) (k := 1) h
 have h2 := rTxt_stay (L := L) (k := 1) (σ := (rTxt L 1 σ).2) (by rw [h1]; exact h)
 unfold rMem
 rw [if_pos (by rw [h2, h1]; exact h)]
 exact h2.trans h1
theorem memP_eq (L : List Con) (s : Bs) : memP L s = (txP L 1 s).then fun a r => (txP L 1 r).then fun b r2 => .ok (a, b) r2 := by
 unfold memP txP
 cases conP L 1 s with
 | er x => rfl
 | ok a r =>
  simp only [Pr.then]
  cases conP L 1 r <;> rfl
theorem lk_mem {L : List Con} (m : Bool) (s : Bs) (hz : kAt L 0 1 = none) : Lk ((memP L s).then (mtP m)) (rMem L m (g0 s)) := by
 rw [memP_eq]
 have h1 := lk_txt 1 s hz
 cases hp : txP L 1 s with
 | er x =>
  rw [hp] at h1
  have h1' : x ≠ 0 ∧ (rTxt L 1 (g0 s)).2.1 = x := h1
  have h2 := rTxt_stay (L := L) (k := 1) (σ := (rTxt L 1 (g0 s)).2) (by rw [h1'.2]; exact h1'.1)
  unfold rMem
  rw [if_pos (by rw [h2, h1'.2]; exact h1'.1)]
  exact ⟨h1'.1, h2.trans h1'.2⟩
 | ok a r =>
  rw [hp] at h1
  have h1' : rTxt L 1 (g0 s) = (a, g0 r) := h1
  have h2 := lk_txt 1 r hz
  unfold rMem
  rw [h1']
  simp only [Pr.then]
  cases hq : txP L 1 r with
  | er x =>
   rw [hq] at h2
   have h2' : x ≠ 0 ∧ (rTxt L 1 (g0 r)).2.1 = x := h2
   rw [if_pos (by rw [h2'.2]; exact h2'.1)]
   exact h2'
  | ok b r2 =>
   rw [hq] at h2
   have h2' : rTxt L 1 (g0 r) = (b, g0 r2) := h2
   rw [h2', if_neg (by simp)]
   simp only [mtP, memW]
   by_cases h3 : nameB a m = false
   ·rw [if_pos h3, if_pos h3, wrS_new 20 rfl]
    refine ⟨by decide, ?_⟩
    show (ite _ _ _ : Sg).1 = _
    split
    ·exact wrS_stay (show (20 : Nat) ≠ 0 by decide)
    ·rfl
   ·rw [if_neg h3, if_neg h3]
    by_cases h4 : (m = true ∧ (metB b).isSome = false) ∨ (m = false ∧ typeB b = false)
    ·rw [if_pos h4, if_pos h4]
     exact ⟨by decide, rfl⟩
    ·rw [if_neg h4, if_neg h4]
     rfl
theorem rCgh_stay {L : List Con} {k : Nat} {σ : Sg} (h : σ.1 ≠ 0) : (rCgh L k σ).2.1 = σ.1 := by
 unfold rCgh
 split
 ·rfl
 split
 ·exact wrS_stay h
 ·split
  ·exact wrS_stay h
  ·rfl
theorem lk_cgh {L : List Con} (i : Nat) (r : Bs) : Lk (if i = 0 then .ok [] r else (atP L i 7 r).then fun c r2 => flatP 12 c.text r2) (rCgh L i (g0 r)) := by
 unfold rCgh atP
 by_cases h : i = 0
 ·rw [if_pos h, if_pos h]
  rfl
 ·rw [if_neg h, if_neg h]
  cases hc : kAt L i 7 with
  | none => exact ⟨by decide, rfl⟩
  | some c =>
   simp only [Pr.then, flatP]
   by_cases h2 : c.text.head? = some 91
   ·rw [if_pos h2, if_pos h2]
    exact ⟨by decide, rfl⟩
   ·rw [if_neg h2, if_neg h2]
    rfl
theorem lk_row {L : List Con} (s : Bs) : Lk (rowP L s) (rRow L (g0 s)) := by
 unfold rowP rRow
 refine (lk_num 2 s (by omega)).bind _ (fun q => ((⟨q.1, (rNum 2 q.2).1, (rNum 2 (rNum 2 q.2).2).1, (rCgh L (rNum 2 (rNum 2 (rNum 2 q.2).2).2).1 (rNum 2 (rNum 2 (rNum 2 q.2).2).2).2).1⟩ : Rw), (rCgh L (rNum 2 (rNum 2 (rNum 2 q.2).2).2).1 (rNum 2 (rNum 2 (rNum 2 q.2).2).2).2).2)) (fun a r _ => ?_) (fun h => ?_)
 ·refine (lk_num 2 r (by omega)).bind _ (fun q => ((⟨a, q.1, (rNum 2 q.2).1, (rCgh L (rNum 2 (rNum 2 q.2).2).1 (rNum 2 (rNum 2 q.2).2).2).1⟩ : Rw), (rCgh L (rNum 2 (rNum 2 q.2).2).1 (rNum 2 (rNum 2 q.2).2).2).2)) (fun b r2 _ => ?_) (fun h => ?_)
  ·refine (lk_num 2 r2 (by omega)).bind _ (fun q => ((⟨a, b, q.1, (rCgh L (rNum 2 q.2).1 (rNum 2 q.2).2).1⟩ : Rw), (rCgh L (rNum 2 q.2).1 (rNum 2 q.2).2).2)) (fun c r3 _ => ?_) (fun h => ?_)
   ·unfold cghP
    cases hp : numP 2 r3 with
    | er x =>
     have hn := lk_num 2 r3 (by omega)
     rw [hp] at hn
     have hn' : x ≠ 0 ∧ (rNum 2 (g0 r3)).2.1 = x := hn
     refine ⟨hn'.1, ?_⟩
     dsimp only
     rw [rCgh_stay (by rw [hn'.2]; exact hn'.1)]
     exact hn'.2
    | ok i r4 =>
     have hn := lk_num 2 r3 (by omega)
     rw [hp] at hn
     have hn' : rNum 2 (g0 r3) = (i, g0 r4) := hn
     dsimp only
     rw [hn']
     exact (lk_cgh i r4).bind _ (fun q => ((⟨a, b, c, q.1⟩ : Rw), q.2)) (fun _ _ _ => rfl) (fun _ => rfl)
   ·dsimp only
    rw [rCgh_stay (by rw [rNum_stay h]; exact h), rNum_stay h]
  ·dsimp only
   rw [rNum_bad 2 h, rNum_bad 2 h, rCgh_stay h]
 ·dsimp only
  rw [rNum_bad 2 h, rNum_bad 2 h, rNum_bad 2 h, rCgh_stay h]
theorem tyLoop_stay {L : List Con} {n : Nat} {acc : List Bs} {σ : Sg} (h : σ.1 ≠ 0) : (tyLoop L n acc σ).2.1 = σ.1 := by
 cases n with
 | zero => rfl
 | succ n => rw [tyLoop, if_pos h]
theorem lk_tyLoop {L : List Con} (hz : kAt L 0 7 = none) : ∀ (n : Nat) (s : Bs) (acc : List Bs), Lk (manyP (typP L) n s acc) (tyLoop L n acc (g0 s))
 | 0, s, acc => rfl
 | n + 1, s, acc => by
  have hn := lk_num 1 s (by omega)
  rw [manyP, tyLoop, if_neg (by simp)]
  unfold typP
  cases hp : numP 1 s with
  | er x =>
   rw [hp] at hn
   have hn' : x ≠ 0 ∧ (rNum 1 (g0 s)).2.1 = x := hn
   have hq : (rNum 1 (g0 s)).1 = 0 := by
    refine Decidable.byContradiction fun h => ?_
    have := rNum_pos h
    exact hn'.1 (hn'.2.symm.trans this)
   refine ⟨hn'.1, ?_⟩
   rw [if_neg (by omega), if_pos (by omega), tyLoop_stay (by rw [hn'.2]; exact hn'.1)]
   exact hn'.2
  | ok k r =>
   rw [hp] at hn
   have hn' : rNum 1 (g0 s) = (k, g0 r) := hn
   rw [hn']
   simp only [Pr.then]
   by_cases h0 : k = 0
   ·subst h0
    exact lk_tyLoop hz n r _
   by_cases h1 : k = 1
   ·subst h1
    exact lk_tyLoop hz n r _
   by_cases h2 : k = 2
   ·subst h2
    exact lk_tyLoop hz n r _
   by_cases h3 : k = 3
   ·subst h3
    exact lk_tyLoop hz n r _
   rw [if_neg h0, if_neg h1, if_neg h2, if_neg h3]
   by_cases h4 : k = 4
   ·subst h4
    rw [if_pos rfl, if_neg (by omega), if_neg (by omega)]
    have ht := lk_txt 7 r hz
    unfold txP at ht
    cases hc : conP L 7 r with
    | er x =>
     rw [hc] at ht
     have ht' : x ≠ 0 ∧ (rTxt L 7 (g0 r)).2.1 = x := ht
     refine ⟨ht'.1, ?_⟩
     rw [tyLoop_stay (by rw [ht'.2]; exact ht'.1)]
     exact ht'.2
    | ok c r2 =>
     rw [hc] at ht
     have ht' : rTxt L 7 (g0 r) = (c.text, g0 r2) := ht
     rw [ht']
     exact lk_tyLoop hz n r2 _
   ·rw [if_neg h4, if_pos (by omega), wrS_new 60 rfl]
    exact ⟨by decide, rfl⟩
theorem lk_tys {L : List Con} (hz : kAt L 0 7 = none) (most : Nat) (s : Bs) : Lk (tysP L most s) (rTys L most (g0 s)) := by
 unfold tysP rTys
 exact (lk_cnt 1 most s (by omega)).bind _ (fun q => tyLoop L q.1 [] q.2) (fun a r _ => lk_tyLoop hz a r []) (fun h => tyLoop_stay h)
theorem rTys_stay {L : List Con} {most : Nat} {σ : Sg} (h : σ.1 ≠ 0) : (rTys L most σ).2.1 = σ.1 := by
 unfold rTys
 rw [tyLoop_stay (by rw [rCnt_stay h]; exact h), rCnt_stay h]
theorem lk_frm {L : List Con} (hz : kAt L 0 7 = none) (s : Bs) : Lk (frmP L s) (rFrm L (g0 s)) := by
 unfold frmP rFrm
 refine (lk_num 2 s (by omega)).bind _ (fun q => ((⟨q.1, (rTys L 40 q.2).1, (rTys L 20 (rTys L 40 q.2).2).1⟩ : Frm), (rTys L 20 (rTys L 40 q.2).2).2)) (fun a r _ => ?_) (fun h => ?_)
 ·refine (lk_tys hz 40 r).bind _ (fun q => ((⟨a, q.1, (rTys L 20 q.2).1⟩ : Frm), (rTys L 20 q.2).2)) (fun b r2 _ => ?_) (fun h => ?_)
  ·exact (lk_tys hz 20 r2).bind _ (fun q => ((⟨a, b, q.1⟩ : Frm), q.2)) (fun _ _ _ => rfl) (fun _ => rfl)
  ·exact rTys_stay h
 ·dsimp only
  rw [rTys_stay (by rw [rTys_stay h]; exact h), rTys_stay h]
theorem rTail_stay {L : List Con} {f st lo : Nat} {m : Bs × Bs} {code : Bs × Sg} (h : code.2.1 ≠ 0) : (rTail L f m st lo code).2.1 = code.2.1 := by
 unfold rTail
 dsimp only
 have h1 : (rCnt 2 60 code.2).2.1 = code.2.1 := rCnt_stay h
 have h2 : (manyR (rRow L) (rCnt 2 60 code.2).1 [] (rCnt 2 60 code.2).2).2.1 = code.2.1 := by rw [manyR_stay (by rw [h1]; exact h), h1]
 have h3 : (rCnt 2 4000 (manyR (rRow L) (rCnt 2 60 code.2).1 [] (rCnt 2 60 code.2).2).2).2.1 = code.2.1 := by rw [rCnt_stay (by rw [h2]; exact h), h2]
 rw [manyR_stay (by rw [h3]; exact h), h3]
theorem lk_tail {L : List Con} (hz : kAt L 0 7 = none) (f st lo : Nat) (m : Bs × Bs) (cd s : Bs) :
  Lk ((cntP 2 60 s).then fun k r5 => (manyP (rowP L) k r5 []).then fun rows r6 => (cntP 2 4000 r6).then fun q r7 => (manyP (frmP L) q r7 []).then fun frames r8 => .ok (⟨f, m.1, m.2, st, lo, cd, rows, frames⟩ : Met) r8) (rTail L f m st lo (cd, g0 s)) := by
 unfold rTail
 refine (lk_cnt 2 60 s (by omega)).bind _ (fun k => (fun rows => (fun q => (fun frs => ((⟨f, m.1, m.2, st, lo, cd, rows.1, frs.1⟩ : Met), frs.2)) (manyR (rFrm L) q.1 [] q.2)) (rCnt 2 4000 rows.2)) (manyR (rRow L) k.1 [] k.2)) (fun k r5 _ => ?_) (fun h => ?_)
 ·refine (lk_many lk_row k r5 []).bind _ (fun rows => (fun q => (fun frs => ((⟨f, m.1, m.2, st, lo, cd, rows.1, frs.1⟩ : Met), frs.2)) (manyR (rFrm L) q.1 [] q.2)) (rCnt 2 4000 rows.2)) (fun rows r6 _ => ?_) (fun h => ?_)
  ·refine (lk_cnt 2 4000 r6 (by omega)).bind _ (fun q => (fun frs => ((⟨f, m.1, m.2, st, lo, cd, rows, frs.1⟩ : Met), frs.2)) (manyR (rFrm L) q.1 [] q.2)) (fun q r7 _ => ?_) (fun h => ?_)
   ·exact (lk_many (lk_frm hz) q r7 []).bind _ (fun frs => ((⟨f, m.1, m.2, st, lo, cd, rows, frs.1⟩ : Met), frs.2)) (fun _ _ _ => rfl) (fun _ => rfl)
   ·exact manyR_stay h
  ·have h3 := rCnt_stay (n := 2) (most := 4000) h
   dsimp only
   rw [manyR_stay (by rw [h3]; exact h), h3]
 ·dsimp only
  have h2 := manyR_stay (f := rRow L) (n := (rCnt 2 60 (g0 s)).1) (acc := []) h
  have h3 := rCnt_stay (n := 2) (most := 4000) (σ := (manyR (rRow L) (rCnt 2 60 (g0 s)).1 [] (rCnt 2 60 (g0 s)).2).2) (by rw [h2]; exact h)
  rw [manyR_stay (by rw [h3, h2]; exact h), h3, h2]
theorem rCode_stay {n : Nat} {σ : Sg} (h : σ.1 ≠ 0) : (rCode n σ).2.1 = σ.1 := by unfold rCode; rw [if_pos h]
theorem lk_code (n : Nat) (s : Bs) : Lk (bytP n s) (rCode n (g0 s)) := by
 unfold bytP rCode
 rw [if_neg (show ¬ (g0 s).1 ≠ 0 by simp)]
 by_cases h : s.length < n
 ·rw [if_pos h, takeS_no (by simp; omega), if_pos rfl]
  exact ⟨by decide, rfl⟩
 ·rw [if_neg h, takeS_yes (by simp; omega), takeL_yes (by simp; omega), if_neg (by simp)]
  simp [Lk]
theorem lk_bdy {L : List Con} (hz : kAt L 0 7 = none) (f : Nat) (m : Bs × Bs) (s : Bs) : Lk (bdyP L f m s) (rBdy L f m (g0 s)) := by
 unfold bdyP rBdy
 refine (lk_cnt 2 20 s (by omega)).bind _ (fun a => rTail L f m a.1 (rCnt 2 40 a.2).1 (rCode (rCnt 2 4000 (rCnt 2 40 a.2).2).1 (rCnt 2 4000 (rCnt 2 40 a.2).2).2)) (fun st r _ => ?_) (fun h => ?_)
 ·refine (lk_cnt 2 40 r (by omega)).bind _ (fun a => rTail L f m st a.1 (rCode (rCnt 2 4000 a.2).1 (rCnt 2 4000 a.2).2)) (fun lo r2 _ => ?_) (fun h => ?_)
  ·refine (lk_cnt 2 4000 r2 (by omega)).bind _ (fun a => rTail L f m st lo (rCode a.1 a.2)) (fun n r3 _ => ?_) (fun h => ?_)
   ·exact (lk_code n r3).bind _ (fun a => rTail L f m st lo a) (fun cd r4 _ => lk_tail hz f st lo m cd r4) (fun h => rTail_stay h)
   ·have h1 := rCode_stay (n := (rCnt 2 4000 (g0 r2)).1) h
    rw [rTail_stay (by rw [h1]; exact h), h1]
  ·have h0 := rCnt_stay (n := 2) (most := 4000) h
   have h1 := rCode_stay (n := (rCnt 2 4000 (rCnt 2 40 (g0 r)).2).1) (σ := (rCnt 2 4000 (rCnt 2 40 (g0 r)).2).2) (by rw [h0]; exact h)
   rw [rTail_stay (by rw [h1, h0]; exact h), h1, h0]
 ·have h9 := rCnt_stay (n := 2) (most := 40) h
  have h0 := rCnt_stay (n := 2) (most := 4000) (σ := (rCnt 2 40 (rCnt 2 20 (g0 s)).2).2) (by rw [h9]; exact h)
  have h1 := rCode_stay (n := (rCnt 2 4000 (rCnt 2 40 (rCnt 2 20 (g0 s)).2).2).1) (σ := (rCnt 2 4000 (rCnt 2 40 (rCnt 2 20 (g0 s)).2).2).2) (by rw [h0, h9]; exact h)
  rw [rTail_stay (by rw [h1, h0, h9]; exact h), h1, h0, h9]
theorem rBdy_stay {L : List Con} {f : Nat} {m : Bs × Bs} {σ : Sg} (h : σ.1 ≠ 0) : (rBdy L f m σ).2.1 = σ.1 := by
 unfold rBdy
 have h8 := rCnt_stay (n := 2) (most := 20) h
 have h9 := rCnt_stay (n := 2) (most := 40) (σ := (rCnt 2 20 σ).2) (by rw [h8]; exact h)
 have h0 := rCnt_stay (n := 2) (most := 4000) (σ := (rCnt 2 40 (rCnt 2 20 σ).2).2) (by rw [h9, h8]; exact h)
 have h1 := rCode_stay (n := (rCnt 2 4000 (rCnt 2 40 (rCnt 2 20 σ).2).2).1) (σ := (rCnt 2 4000 (rCnt 2 40 (rCnt 2 20 σ).2).2).2) (by rw [h0, h9, h8]; exact h)
 rw [rTail_stay (by rw [h1, h0, h9, h8]; exact h), h1, h0, h9, h8]
theorem rMetA_stay {cl f : Nat} {σ : Sg} (h : σ.1 ≠ 0) : (rMetA cl f σ).1 = σ.1 := by
 unfold rMetA
 split
 ·exact wrS_stay h
 ·rfl
theorem rMetB_stay {L : List Con} {f : Nat} {m : Bs × Bs} {σ : Sg} (h : σ.1 ≠ 0) : (rMetB L f m σ).2.1 = σ.1 := by
 unfold rMetB
 split
 ·exact rBdy_stay h
 ·rfl
theorem rMetC_stay {cl f : Nat} {σ : Sg} (h : σ.1 ≠ 0) : (rMetC cl f σ).1 = σ.1 := by
 unfold rMetC
 split
 ·exact wrS_stay h
 ·rfl
def metK (L : List Con) (cf f : Nat) (m : Bs × Bs) (s : Bs) : Pr Met := if metFit cf f = false then .er 22 else if f &&& 1024 = 0 then bdyP L f m s else .ok ⟨f, m.1, m.2, 0, 0, [], [], []⟩ s
theorem metJ_eq (L : List Con) (cf f : Nat) (s : Bs) : ((memP L s).then fun m r => metJ L cf f m r) = ((memP L s).then (mtP true)).then (metK L cf f) := by
 cases memP L s with
 | er x => rfl
 | ok m r =>
  show metJ L cf f m r = (mtP true m r).then (metK L cf f)
  unfold metJ mtP
  by_cases h1 : nameB m.1 true = false
  ·rw [if_pos h1, if_pos h1]
   rfl
  ·rw [if_neg h1, if_neg h1]
   by_cases h2 : (metB m.2).isSome = false
   ·rw [if_pos h2, if_pos (.inl ⟨rfl, h2⟩)]
    rfl
   ·rw [if_neg h2, if_neg (show ¬ ((true = true ∧ (metB m.2).isSome = false) ∨ (true = false ∧ typeB m.2 = false)) from fun h => h.elim (fun h => h2 h.2) (fun h => absurd h.1 (by decide)))]
    rfl
theorem bits1032 {f : Nat} (h : f &&& 1032 = f) : f = 0 ∨ f = 8 ∨ f = 1024 ∨ f = 1032 := by
 have hle : f ≤ 1032 := by rw [← h]; exact Nat.and_le_right
 have := (by decide +kernel : ∀ f : Fin 1033, f.val &&& 1032 = f.val → f.val = 0 ∨ f.val = 8 ∨ f.val = 1024 ∨ f.val = 1032) ⟨f, by omega⟩ h
 exact this
theorem flgP_bits {b : Nat} {s r : Bs} {f : Nat} (h : flgP b s = .ok f r) : f &&& b = f := by
 unfold flgP at h
 cases hp : numP 2 s with
 | er x => rw [hp] at h; cases h
 | ok k r' =>
  rw [hp] at h
  simp only [Pr.then] at h
  by_cases hk : k &&& b = k
  ·rw [if_pos hk] at h
   injection h with h1 h2
   rw [← h1]
   exact hk
  ·rw [if_neg hk] at h
   cases h
theorem lk_metK {L : List Con} (hz : kAt L 0 7 = none) {cl f : Nat} (hcl : cl = 0 ∨ cl = 1024 ∨ cl = 1536) (hf : f = 0 ∨ f = 8 ∨ f = 1024 ∨ f = 1032) (m : Bs × Bs) (s : Bs) :
  Lk (metK L cl f m s) ((rMetB L f m (rMetA cl f (g0 s))).1, rMetC cl f (rMetB L f m (rMetA cl f (g0 s))).2) := by
 have er : ∀ f2, f2 ≠ 1024 → Lk (.er 22 : Pr Met) ((rMetB L f2 m (wrS 22 (g0 s))).1, rMetC cl f2 (rMetB L f2 m (wrS 22 (g0 s))).2) := fun f2 h2 => by
  have h3 : (wrS 22 (g0 s)).1 ≠ 0 := (show (22 : Nat) ≠ 0 by decide)
  refine ⟨by decide, ?_⟩
  dsimp only
  rw [rMetC_stay (by rw [rMetB_stay h3]; exact h3), rMetB_stay h3, wrS_new 22 rfl]
 have okb : ∀ f2, f2 ≠ 1024 → Lk (bdyP L f2 m s) ((rMetB L f2 m (g0 s)).1, rMetC cl f2 (rMetB L f2 m (g0 s)).2) := fun f2 h2 => by
  have e1 : rMetB L f2 m (g0 s) = rBdy L f2 m (g0 s) := by unfold rMetB; rw [if_pos h2]
  have e2 : ∀ τ, rMetC cl f2 τ = τ := fun τ => by unfold rMetC; rw [if_neg (fun h => h2 h.1)]
  rw [e1, e2]
  have hb := lk_bdy hz f2 m s
  generalize rBdy L f2 m (g0 s) = q at *
  generalize bdyP L f2 m s = p at *
  exact hb
 rcases hf with rfl | rfl | rfl | rfl
 ·rcases hcl with rfl | rfl | rfl
  ·rw [show metK L 0 0 m s = bdyP L 0 m s by simp [metK, metFit], show rMetA 0 0 (g0 s) = g0 s by simp [rMetA]]
   exact okb 0 (by decide)
  ·rw [show metK L 1024 0 m s = bdyP L 0 m s by simp [metK, metFit], show rMetA 1024 0 (g0 s) = g0 s by simp [rMetA]]
   exact okb 0 (by decide)
  ·rw [show metK L 1536 0 m s = .er 22 by simp [metK, metFit], show rMetA 1536 0 (g0 s) = wrS 22 (g0 s) by simp [rMetA]]
   exact er 0 (by decide)
 ·rcases hcl with rfl | rfl | rfl
  ·rw [show metK L 0 8 m s = bdyP L 8 m s by simp [metK, metFit], show rMetA 0 8 (g0 s) = g0 s by simp [rMetA]]
   exact okb 8 (by decide)
  ·rw [show metK L 1024 8 m s = bdyP L 8 m s by simp [metK, metFit], show rMetA 1024 8 (g0 s) = g0 s by simp [rMetA]]
   exact okb 8 (by decide)
  ·rw [show metK L 1536 8 m s = .er 22 by simp [metK, metFit], show rMetA 1536 8 (g0 s) = wrS 22 (g0 s) by simp [rMetA]]
   exact er 8 (by decide)
 ·rcases hcl with rfl | rfl | rfl
  ·rw [show metK L 0 1024 m s = .er 22 by simp [metK, metFit], show rMetA 0 1024 (g0 s) = g0 s by simp [rMetA], show rMetB L 1024 m (g0 s) = (⟨1024, m.1, m.2, 0, 0, [], [], []⟩, g0 s) by simp [rMetB], show rMetC 0 1024 (g0 s) = wrS 22 (g0 s) by simp [rMetC]]
   exact ⟨by decide, rfl⟩
  ·rw [show metK L 1024 1024 m s = .ok ⟨1024, m.1, m.2, 0, 0, [], [], []⟩ s by simp [metK, metFit], show rMetA 1024 1024 (g0 s) = g0 s by simp [rMetA], show rMetB L 1024 m (g0 s) = (⟨1024, m.1, m.2, 0, 0, [], [], []⟩, g0 s) by simp [rMetB], show rMetC 1024 1024 (g0 s) = g0 s by simp [rMetC]]
   rfl
  ·rw [show metK L 1536 1024 m s = .ok ⟨1024, m.1, m.2, 0, 0, [], [], []⟩ s by simp [metK, metFit], show rMetA 1536 1024 (g0 s) = g0 s by simp [rMetA], show rMetB L 1024 m (g0 s) = (⟨1024, m.1, m.2, 0, 0, [], [], []⟩, g0 s) by simp [rMetB], show rMetC 1536 1024 (g0 s) = g0 s by simp [rMetC]]
   rfl
 ·rcases hcl with rfl | rfl | rfl
  ·rw [show metK L 0 1032 m s = .er 22 by simp [metK, metFit], show rMetA 0 1032 (g0 s) = wrS 22 (g0 s) by simp [rMetA]]
   exact er 1032 (by decide)
  ·rw [show metK L 1024 1032 m s = .er 22 by simp [metK, metFit], show rMetA 1024 1032 (g0 s) = wrS 22 (g0 s) by simp [rMetA]]
   exact er 1032 (by decide)
  ·rw [show metK L 1536 1032 m s = .er 22 by simp [metK, metFit], show rMetA 1536 1032 (g0 s) = wrS 22 (g0 s) by simp [rMetA]]
   exact er 1032 (by decide)
theorem lk_met {L : List Con} (hz : kAt L 0 7 = none) (hz1 : kAt L 0 1 = none) {cl : Nat} (hcl : cl = 0 ∨ cl = 1024 ∨ cl = 1536) (s : Bs) : Lk (metP L cl s) (rMet L cl (g0 s)) := by
 unfold metP rMet
 refine (lk_flg 1032 s).bind _ (fun a => ((rMetB L a.1 (rMem L true a.2).1 (rMetA cl a.1 (rMem L true a.2).2)).1, rMetC cl a.1 (rMetB L a.1 (rMem L true a.2).1 (rMetA cl a.1 (rMem L true a.2).2)).2)) (fun f r hp => ?_) (fun h => ?_)
 ·have hf := bits1032 (flgP_bits hp)
  rw [metJ_eq]
  refine (lk_mem true r hz1).bind _ (fun q => ((rMetB L f q.1 (rMetA cl f q.2)).1, rMetC cl f (rMetB L f q.1 (rMetA cl f q.2)).2)) (fun m r2 _ => lk_metK hz hcl hf m r2) (fun h => ?_)
  dsimp only
  have h1 := rMetA_stay (cl := cl) (f := f) h
  have h2 := rMetB_stay (L := L) (f := f) (m := (rMem L true (g0 r)).1) (σ := rMetA cl f (rMem L true (g0 r)).2) (by rw [h1]; exact h)
  rw [rMetC_stay (by rw [h2, h1]; exact h), h2, h1]
 ·dsimp only
  have h0 := rMem_stay (L := L) (m := true) h
  have h1 := rMetA_stay (cl := cl) (f := (rFlg 1032 (g0 s)).1) (σ := (rMem L true (rFlg 1032 (g0 s)).2).2) (by rw [h0]; exact h)
  have h2 := rMetB_stay (L := L) (f := (rFlg 1032 (g0 s)).1) (m := (rMem L true (rFlg 1032 (g0 s)).2).1) (σ := rMetA cl (rFlg 1032 (g0 s)).1 (rMem L true (rFlg 1032 (g0 s)).2).2) (by rw [h1, h0]; exact h)
  rw [rMetC_stay (by rw [h2, h1, h0]; exact h), h2, h1, h0]
end Go.Proofs.YtgihfcimngogfaaGreat
namespace Go.Proofs.YtgihfcimngogfaaGreat
open Go Go.RowKit
set_option linter.unusedVariables false
def rFldC (cf f : Nat) (τ : Sg) : Sg := if cf = 1536 ∧ f = 0 then wrS 22 τ else τ
def rFld (L : List Con) (cf : Nat) (σ : Sg) : Fld × Sg := (⟨(rFlg 8 σ).1, (rMem L false (rFlg 8 σ).2).1.1, (rMem L false (rFlg 8 σ).2).1.2⟩, rFldC cf (rFlg 8 σ).1 (rMem L false (rFlg 8 σ).2).2)
def rB1 (L : List Con) (cf : Nat) (nm sp : Bs) (is : List Bs) (fs : List Fld × Sg) : Cls × Sg :=
 (fun c : Nat × Sg => (fun ms : List Met × Sg => ((⟨cf, nm, sp, is, L, fs.1, ms.1⟩ : Cls), ms.2)) (manyR (rMet L cf) c.1 [] c.2)) (rCnt 2 60 fs.2)
def rB2 (L : List Con) (cf : Nat) (nm sp : Bs) (is : List Bs × Sg) : Cls × Sg :=
 (fun b : Nat × Sg => rB1 L cf nm sp is.1 (manyR (rFld L cf) b.1 [] b.2)) (rCnt 2 60 is.2)
def rB3 (L : List Con) (cf : Nat) (nm : Bs) (sp : Bs × Sg) : Cls × Sg :=
 (fun a : Nat × Sg => rB2 L cf nm sp.1 (manyR (rCls L) a.1 [] a.2)) (rCnt 2 8 sp.2)
def rB4 (L : List Con) (cf : Nat) (nm : Bs × Sg) : Cls × Sg := rB3 L cf nm.1 (rCls L nm.2)
def rB5 (L : List Con) (f : Nat × Sg) : Cls × Sg := rB4 L f.1 (rCls L (if f.1 = 512 then wrS 22 f.2 else f.2))
def rBeh (L : List Con) (σ : Sg) : Cls × Sg := rB5 L (rFlg 1536 σ)
def twC (c : Cls) : Bool := twiceB (fKeys c) || twiceB (mKeys c)
def rEnd1 (σ : Sg) : Sg := if σ.1 = 0 ∧ σ.2.1 ≠ [] then wrS 11 σ else σ
def rEnd2 (t : Bool) (τ : Sg) : Sg := if τ.1 = 0 ∧ t = true then wrS 23 τ else τ
def rEnd (c : Cls) (σ : Sg) : Sg := rEnd2 (twC c) (rEnd1 σ)
theorem rFldC_stay {cf f : Nat} {σ : Sg} (h : σ.1 ≠ 0) : (rFldC cf f σ).1 = σ.1 := by
 unfold rFldC
 split
 ·exact wrS_stay h
 ·rfl
def fldK (cf f : Nat) (m : Bs × Bs) (s : Bs) : Pr Fld := if cf &&& 512 ≠ 0 ∧ f = 0 then .er 22 else .ok ⟨f, m.1, m.2⟩ s
theorem fldJ_eq (L : List Con) (cf f : Nat) (s : Bs) : ((memP L s).then fun m r => fldJ cf f m r) = ((memP L s).then (mtP false)).then (fldK cf f) := by
 cases memP L s with
 | er x => rfl
 | ok m r =>
  show fldJ cf f m r = (mtP false m r).then (fldK cf f)
  unfold fldJ mtP
  by_cases h1 : nameB m.1 false = false
  ·rw [if_pos h1, if_pos h1]
   rfl
  ·rw [if_neg h1, if_neg h1]
   by_cases h2 : typeB m.2 = false
   ·rw [if_pos h2, if_pos (.inr ⟨rfl, h2⟩)]
    rfl
   ·rw [if_neg h2, if_neg (show ¬ ((false = true ∧ (metB m.2).isSome = false) ∨ (false = false ∧ typeB m.2 = false)) from fun h => h.elim (fun h => absurd h.1 (by decide)) (fun h => h2 h.2))]
    rfl
theorem lk_fldK {cl : Nat} (hcl : cl = 0 ∨ cl = 1024 ∨ cl = 1536) (f : Nat) (m : Bs × Bs) (s : Bs) : Lk (fldK cl f m s) ((⟨f, m.1, m.2⟩ : Fld), rFldC cl f (g0 s)) := by
 have hb : (cl &&& 512 ≠ 0) ↔ cl = 1536 := by rcases hcl with rfl | rfl | rfl <;> decide
 unfold fldK rFldC
 by_cases h : cl = 1536 ∧ f = 0
 ·rw [if_pos ⟨hb.2 h.1, h.2⟩, if_pos h]
  exact ⟨by decide, rfl⟩
 ·rw [if_neg (fun h2 => h ⟨hb.1 h2.1, h2.2⟩), if_neg h]
  rfl
theorem lk_fld {L : List Con} (hz1 : kAt L 0 1 = none) {cl : Nat} (hcl : cl = 0 ∨ cl = 1024 ∨ cl = 1536) (s : Bs) : Lk (fldP L cl s) (rFld L cl (g0 s)) := by
 unfold fldP rFld
 refine (lk_flg 8 s).bind _ (fun a => ((⟨a.1, (rMem L false a.2).1.1, (rMem L false a.2).1.2⟩ : Fld), rFldC cl a.1 (rMem L false a.2).2)) (fun f r hp => ?_) (fun h => ?_)
 ·rw [fldJ_eq]
  refine (lk_mem false r hz1).bind _ (fun q => ((⟨f, q.1.1, q.1.2⟩ : Fld), rFldC cl f q.2)) (fun m r2 _ => lk_fldK hcl f m r2) (fun h => ?_)
  exact rFldC_stay h
 ·dsimp only
  have h0 := rMem_stay (L := L) (m := false) h
  rw [rFldC_stay (by rw [h0]; exact h), h0]
theorem rB1_stay {L : List Con} {cf : Nat} {nm sp : Bs} {is : List Bs} {q : List Fld × Sg} (h : q.2.1 ≠ 0) : (rB1 L cf nm sp is q).2.1 = q.2.1 := by
 have h1 := rCnt_stay (n := 2) (most := 60) h
 unfold rB1
 dsimp only
 rw [manyR_stay (by rw [h1]; exact h), h1]
theorem rB2_stay {L : List Con} {cf : Nat} {nm sp : Bs} {q : List Bs × Sg} (h : q.2.1 ≠ 0) : (rB2 L cf nm sp q).2.1 = q.2.1 := by
 have h1 := rCnt_stay (n := 2) (most := 60) h
 unfold rB2
 dsimp only
 rw [rB1_stay (by rw [manyR_stay (by rw [h1]; exact h), h1]; exact h), manyR_stay (by rw [h1]; exact h), h1]
theorem rB3_stay {L : List Con} {cf : Nat} {nm : Bs} {q : Bs × Sg} (h : q.2.1 ≠ 0) : (rB3 L cf nm q).2.1 = q.2.1 := by
 have h1 := rCnt_stay (n := 2) (most := 8) h
 unfold rB3
 dsimp only
 rw [rB2_stay (by rw [manyR_stay (by rw [h1]; exact h), h1]; exact h), manyR_stay (by rw [h1]; exact h), h1]
theorem rB4_stay {L : List Con} {cf : Nat} {q : Bs × Sg} (h : q.2.1 ≠ 0) : (rB4 L cf q).2.1 = q.2.1 := by
 have h1 := rCls_stay (L := L) h
 unfold rB4
 rw [rB3_stay (by rw [h1]; exact h), h1]
theorem rB5_stay {L : List Con} {q : Nat × Sg} (h : q.2.1 ≠ 0) : (rB5 L q).2.1 = q.2.1 := by
 unfold rB5
 have h0 : (if q.1 = 512 then wrS 22 q.2 else q.2).1 = q.2.1 := by
  split
  ·exact wrS_stay h
  ·rfl
 have h1 := rCls_stay (L := L) (σ := if q.1 = 512 then wrS 22 q.2 else q.2) (by rw [h0]; exact h)
 rw [rB4_stay (by rw [h1, h0]; exact h), h1, h0]
theorem rBeh_stay {L : List Con} {σ : Sg} (h : σ.1 ≠ 0) : (rBeh L σ).2.1 = σ.1 := by
 have h1 := rFlg_stay (b := 1536) h
 unfold rBeh
 rw [rB5_stay (by rw [h1]; exact h), h1]
theorem rEnd_stay {c : Cls} {σ : Sg} (h : σ.1 ≠ 0) : (rEnd c σ).1 = σ.1 := by
 have h1 : rEnd1 σ = σ := by unfold rEnd1; rw [if_neg (fun h2 => h h2.1)]
 unfold rEnd rEnd2
 rw [h1, if_neg (fun h2 => h h2.1)]
theorem bits1536 {f : Nat} (h : f &&& 1536 = f) : f = 0 ∨ f = 512 ∨ f = 1024 ∨ f = 1536 := by
 have hle : f ≤ 1536 := by rw [← h]; exact Nat.and_le_right
 have := (by decide +kernel : ∀ f : Fin 1537, f.val &&& 1536 = f.val → f.val = 0 ∨ f.val = 512 ∨ f.val = 1024 ∨ f.val = 1536) ⟨f, by omega⟩ h
 exact this
theorem lk_beh {L : List Con} (hz : kAt L 0 7 = none) (hz1 : kAt L 0 1 = none) (s : Bs) : Lk (behP L s) (rBeh L (g0 s)) := by
 unfold behP rBeh
 refine (lk_flg 1536 s).bind _ (rB5 L) (fun cf r hp => ?_) (fun h => rB5_stay h)
 have hf := bits1536 (flgP_bits hp)
 unfold rB5
 dsimp only
 by_cases h5 : cf = 512
 ·rw [if_pos h5, if_pos h5, wrS_new 22 rfl]
  have h0 : ((22, (g0 r).2) : Sg).1 ≠ 0 := (by decide : (22 : Nat) ≠ 0)
  have h1 := rCls_stay (L := L) h0
  refine ⟨by decide, ?_⟩
  rw [rB4_stay (by rw [h1]; exact h0), h1]
 rw [if_neg h5, if_neg h5]
 have hcl : cf = 0 ∨ cf = 1024 ∨ cf = 1536 := by omega
 refine (lk_cls r hz).bind _ (rB4 L cf) (fun nm r2 _ => ?_) (fun h => rB4_stay h)
 unfold rB4
 refine (lk_cls r2 hz).bind _ (rB3 L cf nm) (fun sp r3 _ => ?_) (fun h => rB3_stay h)
 unfold rB3
 refine (lk_cnt 2 8 r3 (by omega)).bind _ (fun a => rB2 L cf nm sp (manyR (rCls L) a.1 [] a.2)) (fun a r4 _ => ?_) (fun h => ?_)
 ·refine (lk_many (fun s => lk_cls s hz) a r4 []).bind _ (rB2 L cf nm sp) (fun is r5 _ => ?_) (fun h => rB2_stay h)
  unfold rB2
  refine (lk_cnt 2 60 r5 (by omega)).bind _ (fun b => rB1 L cf nm sp is (manyR (rFld L cf) b.1 [] b.2)) (fun b r6 _ => ?_) (fun h => ?_)
  ·refine (lk_many (fun s => lk_fld hz1 hcl s) b r6 []).bind _ (rB1 L cf nm sp is) (fun fs r7 _ => ?_) (fun h => rB1_stay h)
   unfold rB1
   refine (lk_cnt 2 60 r7 (by omega)).bind _ (fun c => (fun ms : List Met × Sg => ((⟨cf, nm, sp, is, L, fs, ms.1⟩ : Cls), ms.2)) (manyR (rMet L cf) c.1 [] c.2)) (fun c r8 _ => ?_) (fun h => ?_)
   ·exact (lk_many (fun s => lk_met hz hz1 hcl s) c r8 []).bind _ (fun ms : List Met × Sg => ((⟨cf, nm, sp, is, L, fs, ms.1⟩ : Cls), ms.2)) (fun _ _ _ => rfl) (fun _ => rfl)
   ·exact manyR_stay h
  ·try dsimp only
   rw [rB1_stay (by rw [manyR_stay h]; exact h), manyR_stay h]
 ·try dsimp only
  rw [rB2_stay (by rw [manyR_stay h]; exact h), manyR_stay h]
theorem lk_end (c : Cls) (s : Bs) : Lk (endC c s) (c, rEnd c (g0 s)) := by
 by_cases h : s = []
 ·have e1 : rEnd1 (g0 s) = g0 s := by unfold rEnd1; rw [if_neg (fun h2 => h2.2 h)]
  have e2 : endC c s = if twC c = true then .er 23 else .ok c [] := by unfold endC; rw [if_neg (fun h2 => h2 h)]; rfl
  unfold rEnd
  rw [e1, e2]
  unfold rEnd2
  by_cases ht : twC c = true
  ·rw [if_pos ht, if_pos ⟨rfl, ht⟩]
   exact ⟨by decide, rfl⟩
  ·rw [if_neg ht, if_neg (fun h2 => ht h2.2), h]
   rfl
 ·have e1 : rEnd1 (g0 s) = (11, (g0 s).2) := by unfold rEnd1; rw [if_pos ⟨rfl, h⟩, wrS_new 11 rfl]
  have e2 : endC c s = .er 11 := by unfold endC; rw [if_pos h]
  unfold rEnd
  rw [e1, e2]
  unfold rEnd2
  rw [if_neg (fun h2 => absurd h2.1 (show ¬ (11 : Nat) = 0 by decide))]
  exact ⟨by decide, rfl⟩
theorem resAll_pre (l : List Ent) : ∀ (rest : List Ent) (acc : List Con), (resAll l rest acc).1 = 0 → ∃ r, (resAll l rest acc).2 = acc ++ r
 | [], acc, _ => ⟨[], by rw [resAll_nil]; simp⟩
 | x :: rest, acc, h => by
  by_cases hx : (resOne l x).1 = 0
  ·rw [resAll_on l x rest acc hx] at h ⊢
   obtain ⟨r, hr⟩ := resAll_pre l rest _ h
   exact ⟨(resOne l x).2 :: r, by rw [hr]; simp⟩
  ·rw [resAll_no l x rest acc hx] at h
   exact absurd h hx
theorem poolL_zero (s : St) (h : poolX s = 0) (k : Nat) (hk : k ≠ 0) : kAt (poolL s) 0 k = none := by
 unfold poolX at h
 unfold poolL
 by_cases hx : (rdHead s).1 = 0
 ·rw [if_neg (by omega)] at h ⊢
  obtain ⟨t, h1, _⟩ := rdHead_ok s hx
  rw [h1] at h ⊢
  have h2 : (resOne (Ent.zero :: t) Ent.zero) = (0, Con.zero) := rfl
  rw [resAll_on _ _ _ _ (by rw [h2])] at h ⊢
  obtain ⟨r, hr⟩ := resAll_pre _ _ _ h
  rw [hr, h2]
  unfold kAt
  show (if (0 : Nat) = k then some Con.zero else none) = none
  rw [if_neg (fun e => hk e.symm)]
 ·rw [if_pos hx] at h
  exact absurd h hx
theorem lk_close {p : Pr Cls} {q : Cls × Sg} (h : Lk p q) : Lk (p.then endC) (q.1, rEnd q.1 q.2) :=
 h.bind endC (fun q => (q.1, rEnd q.1 q.2)) (fun c r _ => lk_end c r) (fun h => rEnd_stay h)
theorem lk_file (s : Bs) (hx : poolX (s, false) = 0) (r0 : Bs) : Lk ((behP (poolL (s, false)) r0).then endC) ((rBeh (poolL (s, false)) (g0 r0)).1, rEnd (rBeh (poolL (s, false)) (g0 r0)).1 (rBeh (poolL (s, false)) (g0 r0)).2) :=
 lk_close (lk_beh (poolL_zero _ hx 7 (by decide)) (poolL_zero _ hx 1 (by decide)) r0)
end Go.Proofs.YtgihfcimngogfaaGreat
