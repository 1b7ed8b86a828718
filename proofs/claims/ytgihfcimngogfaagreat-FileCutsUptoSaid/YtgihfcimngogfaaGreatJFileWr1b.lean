/- The writer's first num: its bytes are a constant's. Written by gen_wr1b.py. -/
import Derived.Test.YtgihfcimngogfaaGreatM13
import Derived.Lib.SlBytesConst
import Derived.Laws.Append
namespace Go.Proofs.YtgihfcimngogfaaGreat
open Go.RowKit Go
set_option linter.unusedVariables false
theorem own_newRow (w : World) (base e : Nat) (hb : base ≤ w.heap.size) (xs : List Value) (n cap : Nat) (hx : xs.length = n) (hn : n ≤ cap) (hc : cap ≤ maxLen) (zs : Array Value) (hz : zs.size = cap - n) : (w.alloc (.cells (xs.toArray ++ zs) e)).ownsRow base e 1 (.slice (some ⟨w.heap.size, 0, none⟩) n cap) n xs := by
 refine ⟨by omega, .inr ⟨w.heap.size, cap, _, rfl, hb, heap_alloc_new w _, hn, hc, ?_, ?_⟩⟩
 ·show (xs.toArray ++ zs).size = cap * 1
  rw [Array.size_append, List.size_toArray, hx, hz]
  omega
 ·rw [Array.toList_append, Nat.mul_one, List.take_append_of_le_length (by simp; omega), List.take_of_length_le (by simp; omega)]
theorem step_append_first {P : Program} {w : World} {ops : Array Oper} {o : Oper} {a : Act} {K : Act → World → Prop} {Q : Exit → Act → World → Prop} {E : Prop} (hgd : o.guard = none) (sl x : Operand) (t : TypeId)
  (ho : o.op = .call { callee := .builtin .append, args := #[sl, x], argTypes := #[t, t] })
  (base : Nat) (e : TypeId) (i : TypeInfo) (ht : P.underlying t = some (.slice e)) (hi : P.info? e = some i) (hz : i.zero = some (.int .u8 0))
  (hsize : i.size = 1) (hby : i.bytes = 1) (b : Addr) (xs : List Value) (hxl : xs.length = 4) (hs : a.eval sl = .slice (some b) 4 4) (hold : ∀ j v, xs[j]? = some v → w.cell? (b.add j) = some v)
  (ad : Addr) (c : Nat) (u : Value) (hx : a.eval x = .slice (some ad) 1 c) (hnew : ∀ j v, [u][j]? = some v → w.cell? (ad.add j) = some v) (hbase : base ≤ w.heap.size)
  (h : ∀ g cap w', w'.ownsRow base e 1 (.slice (some ⟨g, 0, none⟩) (4 + 1) cap) (4 + 1) (xs ++ [u]) → Below w.heap.size w w' → K (a.put o.dst (.slice (some ⟨g, 0, none⟩) (4 + 1) cap)) w') :
  if Region.wanted o (yielded ops a.tmps) = true then Oper.wp P o a w K Q else E := by
 have hw : Region.wanted o (yielded ops a.tmps) = true := by simp [Region.wanted, hgd]
 rw [if_pos hw]
 have hr := run_append_grow (P := P) w t o.type e i (.int .u8 0) ht hi hz b 4 4 xs (by rw [hsize, hxl]) hold ad 1 c [u] (by rw [hsize]; rfl) hnew (by omega) (by omega) (by rw [hby]; decide)
 have hge := grownCap_ge w (4 + 1) 4 e
 have hle := grownCap_le_maxLen w (4 + 1) 4 e (by unfold maxLen; omega)
 have hown := own_newRow w.drew base e (by exact hbase) (xs ++ [u]) (4 + 1) (grownCap w (4 + 1) 4 e) (by simp [hxl]) hge hle (Builtin.zeroCells (Value.int .u8 0).cells (grownCap w (4 + 1) 4 e - (4 + 1))) (by simp [Builtin.zeroCells, Value.cells])
 unfold Oper.wp execOp
 simp only [ho, resolve, invoke, builtin, Sem.run_bind, Sem.run_pure, Result.andThen_ok, List.map_toArray, List.map_cons, List.map_nil, hs, hx, hr]
 refine h _ _ _ ?_ ((Below.refl w.heap.size w).drew.alloc (Nat.le_refl _) _)
 have e1 : xs.toArray ++ #[u] = (xs ++ [u]).toArray := by simp
 rw [show ([u] : List Value).toArray = #[u] from rfl, e1]
 exact hown
def magicB : Bs := [82, 69, 71, 76]
set_option maxHeartbeats 16000000 in
set_option maxRecDepth 100000 in
theorem wnum_first (B M G : Nat) (pv : Value) (n' : Int) (hnn : Hid (n' = 2)) (x : Int) (w : World) (HM : Hid (w.heap[M]? = some (.cells #[.slice (some ⟨G, 0, none⟩) 4 4, pv, .bool false] 52 (0, 0)))) (HC : Hid (∀ (j : Nat) (v : Value), (byV magicB)[j]? = some v → w.cell? ((⟨G, 0, none⟩ : Addr).add j) = some v)) (hB : B ≤ w.heap.size) (hBM : B ≤ M) :
  Calls Tryz.prog 23 #[.pointer (some ⟨M, 0, none⟩), .int .i64 n', .int .i64 x] w fun e w' => e = .returned (.tuple #[]) ∧ Wo B M pv w' (wNum 2 x (magicB, false)) ∧ Below B w w' ∧ Stay tW w w' := by
 obtain ⟨i0, hi0, hz0, hz1, hz2⟩ := info_parts infoU8
 have HN2 : Hid (n' = 2) := hnn
 rw [HN2.out]
 go_enter Tryz.func23, Tryz.ntmps23
 go_wp2_with fail
 go_loopw [6] (fun i wr => ∃ (k : Nat) (l : Bs) (A : Option Addr) (c : Nat), i = .int .i64 ((k : Int) - 1) ∧ k ≤ 2 ∧ l.length + k ≤ 6 ∧ Hid (wr.heap[M]? = some (.cells #[.slice A l.length c, pv, .bool false] 52 (0, 0))) ∧ Hid ((k = 2 ∧ l = magicB ∧ A = some ⟨G, 0, none⟩ ∧ c = 4 ∧ w = wr) ∨ wr.ownsRow B 5 1 (.slice A l.length c) l.length (byV l)) ∧ Hid (Below B w wr) ∧ Hid (Stay tW w wr) ∧ Hid (l ++ beW k x = magicB ++ beW 2 x)) (fun i _ => (intOf i + 1).toNat)
 case atStart => exact ⟨2, magicB, some ⟨G, 0, none⟩, 4, rfl, Nat.le_refl _, Nat.le_refl _, HM, lhid (.inl ⟨rfl, rfl, rfl, rfl, rfl⟩), lhid (Below.refl _ _), lhid (Stay.refl _ _), lhid rfl⟩
 case round =>
  obtain ⟨k, l, A, c, rfl, hk, hll, HMr, HWq, HBr, HSr, HE⟩ := hrel
  rcases HWq.out with ⟨rfl, rfl, rfl, rfl, rfl⟩ | hwr
  ·clear HMr HBr HSr HE HWq hll hk
   have wl : IntKind.i64.wrap 8 = 8 := rfl
   have m0 := heap_cell (i := 0) HM.out rfl
   have mz := heap_thaw HM.out 0
   go_upto_region 3 with fail
   refine wp_region_any (by kernel_rfl) ?_
   try (change wpAny _ _ _ _ _ _ _ (World.drew _))
   refine wpAny_take (i := 0) (v := ?v0_1) rfl (by kernel_rfl) (by kernel_rfl) (by kernel_rfl) (fun _ _ _ h => h) (Or.inl ⟨by rfl, ?hy0_1⟩) ?rest0_1
   case hy0_1 => intro w; (first | (go_simp; done) | (go_simp; with_reducible rfl))
   refine wpAny_take (i := 1) (v := ?v1_2) rfl (by kernel_rfl) (by kernel_rfl) (by kernel_rfl) (fun _ _ _ h => h) (Or.inl ⟨by rfl, ?hy1_2⟩) ?rest1_2
   case hy1_2 => intro w; (first | (go_simp; done) | (go_simp; with_reducible rfl))
   refine wpAny_take (i := 2) (v := ?v2_3) rfl (by kernel_rfl) (by kernel_rfl) (by kernel_rfl) (fun _ _ _ h => h) (Or.inl ⟨by rfl, ?hy2_3⟩) ?rest2_3
   case hy2_3 => intro w; (first | (go_simp; done) | (go_simp; with_reducible rfl))
   refine wpAny_take (i := 3) (v := ?v3_4) rfl (by kernel_rfl) (by kernel_rfl) (by kernel_rfl) (fun _ _ _ h => h) (Or.inl ⟨by rfl, ?hy3_4⟩) ?rest3_4
   case hy3_4 => intro w; (first | (go_simp; done) | (go_simp; with_reducible rfl))
   refine wpAny_take (i := 5) (v := ?v5_5) rfl (by kernel_rfl) (by kernel_rfl) (by kernel_rfl) (fun _ _ _ h => h) (Or.inl ⟨by rfl, ?hy5_5⟩) ?rest5_5
   case hy5_5 => intro w; (first | (go_simp; done) | (go_simp; with_reducible rfl))
   refine wpAny_take (i := 6) (v := ?v6_6) rfl (by kernel_rfl) (by kernel_rfl) (by kernel_rfl) (fun _ _ _ h => h) (Or.inl ⟨by rfl, ?hy6_6⟩) ?rest6_6
   case hy6_6 => intro w; (first | (go_simp; done) | (go_simp; with_reducible rfl))
   refine wpAny_take (i := 7) (v := ?v7_7) rfl (by kernel_rfl) (by kernel_rfl) (by kernel_rfl) (fun _ _ _ h => h) (Or.inl ⟨by rfl, ?hy7_7⟩) ?rest7_7
   case hy7_7 => intro w; (first | (go_simp; done) | (go_simp; with_reducible rfl))
   refine wpAny_take (i := 8) (v := ?v8_8) rfl (by kernel_rfl) (by kernel_rfl) (by kernel_rfl) (fun _ _ _ h => h) (Or.inl ⟨by rfl, ?hy8_8⟩) ?rest8_8
   case hy8_8 => intro w; (first | (go_simp; done) | (go_simp; with_reducible rfl))
   refine wpAny_take (i := 9) (v := ?v9_9) rfl (by kernel_rfl) (by kernel_rfl) (by kernel_rfl) (fun _ _ _ h => h) (Or.inl ⟨by rfl, ?hy9_9⟩) ?rest9_9
   case hy9_9 => intro w; (first | (go_simp; done) | (go_simp; with_reducible rfl))
   refine wpAny_ready (rs := [4, 10]) (by kernel_rfl) (by simp) ?_
   refine AllReady.cons rfl (fun K hK => ?_) (AllReady.cons rfl (fun K hK => ?_) AllReady.nil)
   ·go_simp
    refine hK _ _ ?_
    clear hK K
    refine wpAny_ready (rs := [10]) (by kernel_rfl) (by simp) ?_
    refine AllReady.cons rfl (fun K hK => ?_) AllReady.nil
    go_simp
    refine hK _ _ ?_
    clear hK K
    have HMa : Hid ((w.alloc (.cells #[.int .u8 (IntKind.u8.wrap (x / 256))] 5 (0, 0))).drew.heap[M]? = some (.cells #[.slice (some ⟨G, 0, none⟩) 4 4, pv, .bool false] 52 (0, 0))) := lhid ((Below.heap_alloc w (.cells #[.int .u8 (IntKind.u8.wrap (x / 256))] 5 (0, 0)) _ (heap_lt HM.out)).trans HM.out)
    have HBa : Hid (Below w.heap.size w (w.alloc (.cells #[.int .u8 (IntKind.u8.wrap (x / 256))] 5 (0, 0))).drew) := lhid (((Below.refl w.heap.size w).alloc (Nat.le_refl _) (.cells #[.int .u8 (IntKind.u8.wrap (x / 256))] 5 (0, 0))).drew)
    have HSa : Hid (Stay tW w (w.alloc (.cells #[.int .u8 (IntKind.u8.wrap (x / 256))] 5 (0, 0))).drew) := lhid (((Stay.refl tW w).alloc (.cells #[.int .u8 (IntKind.u8.wrap (x / 256))] 5 (0, 0))).drew)
    have HNa : Hid ((w.alloc (.cells #[.int .u8 (IntKind.u8.wrap (x / 256))] 5 (0, 0))).drew.heap[w.heap.size]? = some (.cells #[.int .u8 (IntKind.u8.wrap (x / 256))] 5 (0, 0))) := lhid (heap_alloc_new w (.cells #[.int .u8 (IntKind.u8.wrap (x / 256))] 5 (0, 0)))
    have HCa : Hid (∀ (j : Nat) (v : Value), (byV magicB)[j]? = some v → (w.alloc (.cells #[.int .u8 (IntKind.u8.wrap (x / 256))] 5 (0, 0))).drew.cell? ((⟨G, 0, none⟩ : Addr).add j) = some v) := lhid fun j v hj => by
     have := HC.out j v hj
     exact (HBa.out.cell (cell_lt this)).trans this
    have m0a := heap_cell (i := 0) HMa.out rfl
    refine wpAny_ready (rs := [11]) (by kernel_rfl) (by simp) ?_
    refine AllReady.cons rfl (fun K hK => ?_) AllReady.nil
    refine step_append_first rfl (.tmp 17) (.tmp 23) 28 rfl B 5 i0 Tryz.underlying28 hi0 hz0 hz1 hz2 ⟨G, 0, none⟩ (byV magicB) rfl rfl HCa.out _ 1 (.int .u8 (IntKind.u8.wrap (x / 256))) rfl (World.news_of_block HNa.out) (Nat.le_trans hB HBa.out.size) ?_
    intro g cap w6 hown hb6
    have hM6 : w6.heap[M]? = some (.cells #[.slice (some ⟨G, 0, none⟩) 4 4, pv, .bool false] 52 (0, 0)) := (hb6.block M (heap_lt HMa.out)).trans HMa.out
    have q6 := heap_cell (i := 0) hM6 rfl
    have z6 := heap_thaw hM6 0
    refine hK _ _ ?_
    clear hK K
    refine wpAny_take (i := 12) (v := ?v12_10) rfl (by kernel_rfl) (by kernel_rfl) (by kernel_rfl) (fun _ _ _ h => h) (Or.inl ⟨by rfl, ?hy12_10⟩) ?rest12_10
    case hy12_10 => intro w; (first | (go_simp; done) | (go_simp; with_reducible rfl))
    refine wpAny_take (i := 13) (v := ?v13_11) rfl (by kernel_rfl) (by kernel_rfl) (by kernel_rfl) (fun _ _ _ h => h) (Or.inl ⟨by rfl, ?hy13_11⟩) ?rest13_11
    case hy13_11 => intro w; (first | (go_simp; done) | (go_simp; with_reducible rfl))
    refine wpAny_ready (rs := [14]) (by kernel_rfl) (by simp) ?_
    refine AllReady.cons rfl (fun K hK => ?_) AllReady.nil
    go_simp
    refine hK _ _ ?_
    clear hK K
    refine wpAny_done (by kernel_rfl) ?_ _
    have hcap : byV (magicB ++ [byI x 1]) = byV magicB ++ [.int .u8 (IntKind.u8.wrap (x / 256))] := by rw [byV_app]; simp only [byV, List.map_cons, List.map_nil]; rw [byI_pow x 1 256 (by decide)]
    have HMn : Hid ((w6.setCell ⟨M, 0, none⟩ (.slice (some ⟨g, 0, none⟩) (4 + 1) cap)).heap[M]? = some (.cells #[.slice (some ⟨g, 0, none⟩) (4 + 1) cap, pv, .bool false] 52 (0, 0))) := lhid (heap_set hM6 _)
    have HWn : Hid ((w6.setCell ⟨M, 0, none⟩ (.slice (some ⟨g, 0, none⟩) (4 + 1) cap)).ownsRow B 5 1 (.slice (some ⟨g, 0, none⟩) (4 + 1) cap) (4 + 1) (byV (magicB ++ [byI x 1]))) := lhid (by rw [hcap]; exact own_stay hown ((Stay.refl [5] w6).set (p := ⟨M, 0, none⟩) hM6 (by decide) _) (by simp))
    have HBn : Hid (Below B w (w6.setCell ⟨M, 0, none⟩ (.slice (some ⟨g, 0, none⟩) (4 + 1) cap))) := lhid (((below_lt HBa.out hB).trans (below_lt hb6 (Nat.le_trans hB HBa.out.size))).setCell (p := ⟨M, 0, none⟩) hBM _)
    have HSn : Hid (Stay tW w (w6.setCell ⟨M, 0, none⟩ (.slice (some ⟨g, 0, none⟩) (4 + 1) cap))) := lhid ((HSa.out.trans (Stay.below hb6)).set (p := ⟨M, 0, none⟩) hM6 (by decide) _)
    clear hown hb6 hM6 q6 z6 hcap
    go_wp2
    go_roundw
    case rel => exact ⟨1, magicB ++ [byI x 1], some ⟨g, 0, none⟩, cap, rfl, by omega, Nat.le_refl _, HMn, lhid (.inr HWn.out), HBn, HSn, lhid rfl⟩
    case measure => simp [intOf]
   ·go_simp
    refine hK _ _ ?_
    clear hK K
    have HMa : Hid ((w.alloc (.cells #[.int .u8 (IntKind.u8.wrap (x / 256))] 5 (0, 0))).drew.heap[M]? = some (.cells #[.slice (some ⟨G, 0, none⟩) 4 4, pv, .bool false] 52 (0, 0))) := lhid ((Below.heap_alloc w (.cells #[.int .u8 (IntKind.u8.wrap (x / 256))] 5 (0, 0)) _ (heap_lt HM.out)).trans HM.out)
    have HBa : Hid (Below w.heap.size w (w.alloc (.cells #[.int .u8 (IntKind.u8.wrap (x / 256))] 5 (0, 0))).drew) := lhid (((Below.refl w.heap.size w).alloc (Nat.le_refl _) (.cells #[.int .u8 (IntKind.u8.wrap (x / 256))] 5 (0, 0))).drew)
    have HSa : Hid (Stay tW w (w.alloc (.cells #[.int .u8 (IntKind.u8.wrap (x / 256))] 5 (0, 0))).drew) := lhid (((Stay.refl tW w).alloc (.cells #[.int .u8 (IntKind.u8.wrap (x / 256))] 5 (0, 0))).drew)
    have HNa : Hid ((w.alloc (.cells #[.int .u8 (IntKind.u8.wrap (x / 256))] 5 (0, 0))).drew.heap[w.heap.size]? = some (.cells #[.int .u8 (IntKind.u8.wrap (x / 256))] 5 (0, 0))) := lhid (heap_alloc_new w (.cells #[.int .u8 (IntKind.u8.wrap (x / 256))] 5 (0, 0)))
    have HCa : Hid (∀ (j : Nat) (v : Value), (byV magicB)[j]? = some v → (w.alloc (.cells #[.int .u8 (IntKind.u8.wrap (x / 256))] 5 (0, 0))).drew.cell? ((⟨G, 0, none⟩ : Addr).add j) = some v) := lhid fun j v hj => by
     have := HC.out j v hj
     exact (HBa.out.cell (cell_lt this)).trans this
    have m0a := heap_cell (i := 0) HMa.out rfl
    refine wpAny_ready (rs := [4]) (by kernel_rfl) (by simp) ?_
    refine AllReady.cons rfl (fun K hK => ?_) AllReady.nil
    go_simp
    refine hK _ _ ?_
    clear hK K
    refine wpAny_ready (rs := [11]) (by kernel_rfl) (by simp) ?_
    refine AllReady.cons rfl (fun K hK => ?_) AllReady.nil
    refine step_append_first rfl (.tmp 17) (.tmp 23) 28 rfl B 5 i0 Tryz.underlying28 hi0 hz0 hz1 hz2 ⟨G, 0, none⟩ (byV magicB) rfl rfl HCa.out _ 1 (.int .u8 (IntKind.u8.wrap (x / 256))) rfl (World.news_of_block HNa.out) (Nat.le_trans hB HBa.out.size) ?_
    intro g cap w6 hown hb6
    have hM6 : w6.heap[M]? = some (.cells #[.slice (some ⟨G, 0, none⟩) 4 4, pv, .bool false] 52 (0, 0)) := (hb6.block M (heap_lt HMa.out)).trans HMa.out
    have q6 := heap_cell (i := 0) hM6 rfl
    have z6 := heap_thaw hM6 0
    refine hK _ _ ?_
    clear hK K
    refine wpAny_take (i := 12) (v := ?v12_12) rfl (by kernel_rfl) (by kernel_rfl) (by kernel_rfl) (fun _ _ _ h => h) (Or.inl ⟨by rfl, ?hy12_12⟩) ?rest12_12
    case hy12_12 => intro w; (first | (go_simp; done) | (go_simp; with_reducible rfl))
    refine wpAny_take (i := 13) (v := ?v13_13) rfl (by kernel_rfl) (by kernel_rfl) (by kernel_rfl) (fun _ _ _ h => h) (Or.inl ⟨by rfl, ?hy13_13⟩) ?rest13_13
    case hy13_13 => intro w; (first | (go_simp; done) | (go_simp; with_reducible rfl))
    refine wpAny_ready (rs := [14]) (by kernel_rfl) (by simp) ?_
    refine AllReady.cons rfl (fun K hK => ?_) AllReady.nil
    go_simp
    refine hK _ _ ?_
    clear hK K
    refine wpAny_done (by kernel_rfl) ?_ _
    have hcap : byV (magicB ++ [byI x 1]) = byV magicB ++ [.int .u8 (IntKind.u8.wrap (x / 256))] := by rw [byV_app]; simp only [byV, List.map_cons, List.map_nil]; rw [byI_pow x 1 256 (by decide)]
    have HMn : Hid ((w6.setCell ⟨M, 0, none⟩ (.slice (some ⟨g, 0, none⟩) (4 + 1) cap)).heap[M]? = some (.cells #[.slice (some ⟨g, 0, none⟩) (4 + 1) cap, pv, .bool false] 52 (0, 0))) := lhid (heap_set hM6 _)
    have HWn : Hid ((w6.setCell ⟨M, 0, none⟩ (.slice (some ⟨g, 0, none⟩) (4 + 1) cap)).ownsRow B 5 1 (.slice (some ⟨g, 0, none⟩) (4 + 1) cap) (4 + 1) (byV (magicB ++ [byI x 1]))) := lhid (by rw [hcap]; exact own_stay hown ((Stay.refl [5] w6).set (p := ⟨M, 0, none⟩) hM6 (by decide) _) (by simp))
    have HBn : Hid (Below B w (w6.setCell ⟨M, 0, none⟩ (.slice (some ⟨g, 0, none⟩) (4 + 1) cap))) := lhid (((below_lt HBa.out hB).trans (below_lt hb6 (Nat.le_trans hB HBa.out.size))).setCell (p := ⟨M, 0, none⟩) hBM _)
    have HSn : Hid (Stay tW w (w6.setCell ⟨M, 0, none⟩ (.slice (some ⟨g, 0, none⟩) (4 + 1) cap))) := lhid ((HSa.out.trans (Stay.below hb6)).set (p := ⟨M, 0, none⟩) hM6 (by decide) _)
    clear hown hb6 hM6 q6 z6 hcap
    go_wp2
    go_roundw
    case rel => exact ⟨1, magicB ++ [byI x 1], some ⟨g, 0, none⟩, cap, rfl, by omega, Nat.le_refl _, HMn, lhid (.inr HWn.out), HBn, HSn, lhid rfl⟩
    case measure => simp [intOf]
  have HWr := lhid hwr
  clear HWq hwr
  have hks : k = 0 ∨ k = 1 ∨ k = 2 := by omega
  rcases hks with rfl | rfl | rfl
  ·go_wp2_with fail
   go_end0
   have he := HE.out
   rw [beW, List.append_nil] at he
   subst he
   exact ⟨rfl, ⟨.slice A (magicB ++ beW 2 x).length c, HMr.out, HWr.out⟩, HBr.out, HSr.out⟩
  ·have wl : IntKind.i64.wrap 0 = 0 := rfl
   have m0 := heap_cell (i := 0) HMr.out rfl
   have mz := heap_thaw HMr.out 0
   have h63 : l.length + 1 ≤ maxLen := by unfold maxLen; omega
   have hby : (l.length + 1) * 1 ≤ 140737488355328 := by omega
   have H1C : Hid (∀ u ∈ ([.int .u8 (IntKind.u8.wrap x)] : List Value), u.oneCell' = true) := lhid (by intro u hu; simp at hu; subst hu; rfl)
   go_upto_region 3 with fail
   refine wp_region_any (by kernel_rfl) ?_
   try (change wpAny _ _ _ _ _ _ _ (World.drew _))
   refine wpAny_take (i := 0) (v := ?v0_14) rfl (by kernel_rfl) (by kernel_rfl) (by kernel_rfl) (fun _ _ _ h => h) (Or.inl ⟨by rfl, ?hy0_14⟩) ?rest0_14
   case hy0_14 => intro w; (first | (go_simp; done) | (go_simp; with_reducible rfl))
   refine wpAny_take (i := 1) (v := ?v1_15) rfl (by kernel_rfl) (by kernel_rfl) (by kernel_rfl) (fun _ _ _ h => h) (Or.inl ⟨by rfl, ?hy1_15⟩) ?rest1_15
   case hy1_15 => intro w; (first | (go_simp; done) | (go_simp; with_reducible rfl))
   refine wpAny_take (i := 2) (v := ?v2_16) rfl (by kernel_rfl) (by kernel_rfl) (by kernel_rfl) (fun _ _ _ h => h) (Or.inl ⟨by rfl, ?hy2_16⟩) ?rest2_16
   case hy2_16 => intro w; (first | (go_simp; done) | (go_simp; with_reducible rfl))
   refine wpAny_take (i := 3) (v := ?v3_17) rfl (by kernel_rfl) (by kernel_rfl) (by kernel_rfl) (fun _ _ _ h => h) (Or.inl ⟨by rfl, ?hy3_17⟩) ?rest3_17
   case hy3_17 => intro w; (first | (go_simp; done) | (go_simp; with_reducible rfl))
   refine wpAny_take (i := 5) (v := ?v5_18) rfl (by kernel_rfl) (by kernel_rfl) (by kernel_rfl) (fun _ _ _ h => h) (Or.inl ⟨by rfl, ?hy5_18⟩) ?rest5_18
   case hy5_18 => intro w; (first | (go_simp; done) | (go_simp; with_reducible rfl))
   refine wpAny_take (i := 6) (v := ?v6_19) rfl (by kernel_rfl) (by kernel_rfl) (by kernel_rfl) (fun _ _ _ h => h) (Or.inl ⟨by rfl, ?hy6_19⟩) ?rest6_19
   case hy6_19 => intro w; (first | (go_simp; done) | (go_simp; with_reducible rfl))
   refine wpAny_take (i := 7) (v := ?v7_20) rfl (by kernel_rfl) (by kernel_rfl) (by kernel_rfl) (fun _ _ _ h => h) (Or.inl ⟨by rfl, ?hy7_20⟩) ?rest7_20
   case hy7_20 => intro w; (first | (go_simp; done) | (go_simp; with_reducible rfl))
   refine wpAny_take (i := 8) (v := ?v8_21) rfl (by kernel_rfl) (by kernel_rfl) (by kernel_rfl) (fun _ _ _ h => h) (Or.inl ⟨by rfl, ?hy8_21⟩) ?rest8_21
   case hy8_21 => intro w; (first | (go_simp; done) | (go_simp; with_reducible rfl))
   refine wpAny_take (i := 9) (v := ?v9_22) rfl (by kernel_rfl) (by kernel_rfl) (by kernel_rfl) (fun _ _ _ h => h) (Or.inl ⟨by rfl, ?hy9_22⟩) ?rest9_22
   case hy9_22 => intro w; (first | (go_simp; done) | (go_simp; with_reducible rfl))
   refine wpAny_ready (rs := [4, 10]) (by kernel_rfl) (by simp) ?_
   refine AllReady.cons rfl (fun K hK => ?_) (AllReady.cons rfl (fun K hK => ?_) AllReady.nil)
   ·go_simp
    refine hK _ _ ?_
    clear hK K
    refine wpAny_ready (rs := [10]) (by kernel_rfl) (by simp) ?_
    refine AllReady.cons rfl (fun K hK => ?_) AllReady.nil
    go_simp
    refine hK _ _ ?_
    clear hK K
    have HMa : Hid ((wr.alloc (.cells #[.int .u8 (IntKind.u8.wrap x)] 5 (0, 0))).drew.heap[M]? = some (.cells #[.slice A l.length c, pv, .bool false] 52 (0, 0))) := lhid ((Below.heap_alloc wr (.cells #[.int .u8 (IntKind.u8.wrap x)] 5 (0, 0)) _ (heap_lt HMr.out)).trans HMr.out)
    have HWa : Hid ((wr.alloc (.cells #[.int .u8 (IntKind.u8.wrap x)] 5 (0, 0))).drew.ownsRow B 5 1 (.slice A l.length c) l.length (byV l)) := lhid (own_far (HWr.out.alloc (.cells #[.int .u8 (IntKind.u8.wrap x)] 5 (0, 0))) (w' := (wr.alloc (.cells #[.int .u8 (IntKind.u8.wrap x)] 5 (0, 0))).drew) fun _ _ => rfl)
    have HBa : Hid (Below B w (wr.alloc (.cells #[.int .u8 (IntKind.u8.wrap x)] 5 (0, 0))).drew) := lhid ((HBr.out.alloc (Nat.le_trans hB HBr.out.size) (.cells #[.int .u8 (IntKind.u8.wrap x)] 5 (0, 0))).drew)
    have HSa : Hid (Stay tW w (wr.alloc (.cells #[.int .u8 (IntKind.u8.wrap x)] 5 (0, 0))).drew) := lhid ((HSr.out.alloc (.cells #[.int .u8 (IntKind.u8.wrap x)] 5 (0, 0))).drew)
    have HNa : Hid ((wr.alloc (.cells #[.int .u8 (IntKind.u8.wrap x)] 5 (0, 0))).drew.heap[wr.heap.size]? = some (.cells #[.int .u8 (IntKind.u8.wrap x)] 5 (0, 0))) := lhid (heap_alloc_new wr (.cells #[.int .u8 (IntKind.u8.wrap x)] 5 (0, 0)))
    have m0a := heap_cell (i := 0) HMa.out rfl
    refine wpAny_ready (rs := [11]) (by kernel_rfl) (by simp) ?_
    refine AllReady.cons rfl (fun K hK => ?_) AllReady.nil
    refine step_append_lies _ rfl (.tmp 17) (.tmp 23) 28 rfl B 5 i0 (.int .u8 0) 1 1 Tryz.underlying28 hi0 hz0 hz1 hz2 rfl (by decide) (.slice A l.length c) l.length (byV l) rfl HWa.out _ 1 _ [.int .u8 (IntKind.u8.wrap x)] rfl rfl (World.news_of_block HNa.out) H1C.out (by decide) h63 hby (Nat.le_trans hB HBa.out.size) _ rfl ?_
    intro g cap w6 hown hgrow hat hlt6
    have hge := own_lt HWa.out
    have hM6 : w6.heap[M]? = some (.cells #[.slice A l.length c, pv, .bool false] 52 (0, 0)) := (grown_stay (Ts := [52]) hgrow HWa.out (by decide)) M _ _ _ (by simp) HMa.out
    have q6 := heap_cell (i := 0) hM6 rfl
    have z6 := heap_thaw hM6 0
    refine hK _ _ ?_
    clear hK K
    refine wpAny_take (i := 12) (v := ?v12_23) rfl (by kernel_rfl) (by kernel_rfl) (by kernel_rfl) (fun _ _ _ h => h) (Or.inl ⟨by rfl, ?hy12_23⟩) ?rest12_23
    case hy12_23 => intro w; (first | (go_simp; done) | (go_simp; with_reducible rfl))
    refine wpAny_take (i := 13) (v := ?v13_24) rfl (by kernel_rfl) (by kernel_rfl) (by kernel_rfl) (fun _ _ _ h => h) (Or.inl ⟨by rfl, ?hy13_24⟩) ?rest13_24
    case hy13_24 => intro w; (first | (go_simp; done) | (go_simp; with_reducible rfl))
    refine wpAny_ready (rs := [14]) (by kernel_rfl) (by simp) ?_
    refine AllReady.cons rfl (fun K hK => ?_) AllReady.nil
    go_simp
    refine hK _ _ ?_
    clear hK K
    refine wpAny_done (by kernel_rfl) ?_ _
    have hcap : byV (l ++ [byI x 0]) = byV l ++ [.int .u8 (IntKind.u8.wrap x)] := by rw [byV_app]; simp only [byV, List.map_cons, List.map_nil]; rw [byI_pow x 0 1 (by decide), Int.ediv_one]
    have HMn : Hid ((w6.setCell ⟨M, 0, none⟩ (.slice (some ⟨g, 0, none⟩) (l.length + 1) cap)).heap[M]? = some (.cells #[.slice (some ⟨g, 0, none⟩) (l.length + 1) cap, pv, .bool false] 52 (0, 0))) := lhid (heap_set hM6 _)
    have HWn : Hid ((w6.setCell ⟨M, 0, none⟩ (.slice (some ⟨g, 0, none⟩) (l.length + 1) cap)).ownsRow B 5 1 (.slice (some ⟨g, 0, none⟩) (l.length + 1) cap) (l.length + 1) (byV (l ++ [byI x 0]))) := lhid (by rw [hcap]; exact own_stay hown ((Stay.refl [5] w6).set (p := ⟨M, 0, none⟩) hM6 (by decide) _) (by simp))
    have HBn : Hid (Below B w (w6.setCell ⟨M, 0, none⟩ (.slice (some ⟨g, 0, none⟩) (l.length + 1) cap))) := lhid ((HBa.out.trans (grownBelow hgrow hge (Nat.le_trans hB HBa.out.size))).setCell (p := ⟨M, 0, none⟩) hBM _)
    have HSn : Hid (Stay tW w (w6.setCell ⟨M, 0, none⟩ (.slice (some ⟨g, 0, none⟩) (l.length + 1) cap))) := lhid ((HSa.out.trans (grown_stay hgrow HWa.out (by decide))).set (p := ⟨M, 0, none⟩) hM6 (by decide) _)
    clear hown hgrow hat hge hlt6 hM6 q6 z6 hcap
    go_wp2
    go_roundw
    case rel =>
     have hlen : (l ++ [byI x 0]).length = l.length + 1 := by simp
     refine ⟨0, l ++ [byI x 0], some ⟨g, 0, none⟩, cap, by simp, by omega, by rw [hlen]; omega, lhid (by rw [hlen]; exact HMn.out), lhid (.inr (by rw [hlen]; exact HWn.out)), HBn, HSn, lhid ?_⟩
     rw [← HE.out, beW, List.append_assoc]
     rfl
    case measure => simp [intOf]
   ·go_simp
    refine hK _ _ ?_
    clear hK K
    have HMa : Hid ((wr.alloc (.cells #[.int .u8 (IntKind.u8.wrap x)] 5 (0, 0))).drew.heap[M]? = some (.cells #[.slice A l.length c, pv, .bool false] 52 (0, 0))) := lhid ((Below.heap_alloc wr (.cells #[.int .u8 (IntKind.u8.wrap x)] 5 (0, 0)) _ (heap_lt HMr.out)).trans HMr.out)
    have HWa : Hid ((wr.alloc (.cells #[.int .u8 (IntKind.u8.wrap x)] 5 (0, 0))).drew.ownsRow B 5 1 (.slice A l.length c) l.length (byV l)) := lhid (own_far (HWr.out.alloc (.cells #[.int .u8 (IntKind.u8.wrap x)] 5 (0, 0))) (w' := (wr.alloc (.cells #[.int .u8 (IntKind.u8.wrap x)] 5 (0, 0))).drew) fun _ _ => rfl)
    have HBa : Hid (Below B w (wr.alloc (.cells #[.int .u8 (IntKind.u8.wrap x)] 5 (0, 0))).drew) := lhid ((HBr.out.alloc (Nat.le_trans hB HBr.out.size) (.cells #[.int .u8 (IntKind.u8.wrap x)] 5 (0, 0))).drew)
    have HSa : Hid (Stay tW w (wr.alloc (.cells #[.int .u8 (IntKind.u8.wrap x)] 5 (0, 0))).drew) := lhid ((HSr.out.alloc (.cells #[.int .u8 (IntKind.u8.wrap x)] 5 (0, 0))).drew)
    have HNa : Hid ((wr.alloc (.cells #[.int .u8 (IntKind.u8.wrap x)] 5 (0, 0))).drew.heap[wr.heap.size]? = some (.cells #[.int .u8 (IntKind.u8.wrap x)] 5 (0, 0))) := lhid (heap_alloc_new wr (.cells #[.int .u8 (IntKind.u8.wrap x)] 5 (0, 0)))
    have m0a := heap_cell (i := 0) HMa.out rfl
    refine wpAny_ready (rs := [4]) (by kernel_rfl) (by simp) ?_
    refine AllReady.cons rfl (fun K hK => ?_) AllReady.nil
    go_simp
    refine hK _ _ ?_
    clear hK K
    refine wpAny_ready (rs := [11]) (by kernel_rfl) (by simp) ?_
    refine AllReady.cons rfl (fun K hK => ?_) AllReady.nil
    refine step_append_lies _ rfl (.tmp 17) (.tmp 23) 28 rfl B 5 i0 (.int .u8 0) 1 1 Tryz.underlying28 hi0 hz0 hz1 hz2 rfl (by decide) (.slice A l.length c) l.length (byV l) rfl HWa.out _ 1 _ [.int .u8 (IntKind.u8.wrap x)] rfl rfl (World.news_of_block HNa.out) H1C.out (by decide) h63 hby (Nat.le_trans hB HBa.out.size) _ rfl ?_
    intro g cap w6 hown hgrow hat hlt6
    have hge := own_lt HWa.out
    have hM6 : w6.heap[M]? = some (.cells #[.slice A l.length c, pv, .bool false] 52 (0, 0)) := (grown_stay (Ts := [52]) hgrow HWa.out (by decide)) M _ _ _ (by simp) HMa.out
    have q6 := heap_cell (i := 0) hM6 rfl
    have z6 := heap_thaw hM6 0
    refine hK _ _ ?_
    clear hK K
    refine wpAny_take (i := 12) (v := ?v12_25) rfl (by kernel_rfl) (by kernel_rfl) (by kernel_rfl) (fun _ _ _ h => h) (Or.inl ⟨by rfl, ?hy12_25⟩) ?rest12_25
    case hy12_25 => intro w; (first | (go_simp; done) | (go_simp; with_reducible rfl))
    refine wpAny_take (i := 13) (v := ?v13_26) rfl (by kernel_rfl) (by kernel_rfl) (by kernel_rfl) (fun _ _ _ h => h) (Or.inl ⟨by rfl, ?hy13_26⟩) ?rest13_26
    case hy13_26 => intro w; (first | (go_simp; done) | (go_simp; with_reducible rfl))
    refine wpAny_ready (rs := [14]) (by kernel_rfl) (by simp) ?_
    refine AllReady.cons rfl (fun K hK => ?_) AllReady.nil
    go_simp
    refine hK _ _ ?_
    clear hK K
    refine wpAny_done (by kernel_rfl) ?_ _
    have hcap : byV (l ++ [byI x 0]) = byV l ++ [.int .u8 (IntKind.u8.wrap x)] := by rw [byV_app]; simp only [byV, List.map_cons, List.map_nil]; rw [byI_pow x 0 1 (by decide), Int.ediv_one]
    have HMn : Hid ((w6.setCell ⟨M, 0, none⟩ (.slice (some ⟨g, 0, none⟩) (l.length + 1) cap)).heap[M]? = some (.cells #[.slice (some ⟨g, 0, none⟩) (l.length + 1) cap, pv, .bool false] 52 (0, 0))) := lhid (heap_set hM6 _)
    have HWn : Hid ((w6.setCell ⟨M, 0, none⟩ (.slice (some ⟨g, 0, none⟩) (l.length + 1) cap)).ownsRow B 5 1 (.slice (some ⟨g, 0, none⟩) (l.length + 1) cap) (l.length + 1) (byV (l ++ [byI x 0]))) := lhid (by rw [hcap]; exact own_stay hown ((Stay.refl [5] w6).set (p := ⟨M, 0, none⟩) hM6 (by decide) _) (by simp))
    have HBn : Hid (Below B w (w6.setCell ⟨M, 0, none⟩ (.slice (some ⟨g, 0, none⟩) (l.length + 1) cap))) := lhid ((HBa.out.trans (grownBelow hgrow hge (Nat.le_trans hB HBa.out.size))).setCell (p := ⟨M, 0, none⟩) hBM _)
    have HSn : Hid (Stay tW w (w6.setCell ⟨M, 0, none⟩ (.slice (some ⟨g, 0, none⟩) (l.length + 1) cap))) := lhid ((HSa.out.trans (grown_stay hgrow HWa.out (by decide))).set (p := ⟨M, 0, none⟩) hM6 (by decide) _)
    clear hown hgrow hat hge hlt6 hM6 q6 z6 hcap
    go_wp2
    go_roundw
    case rel =>
     have hlen : (l ++ [byI x 0]).length = l.length + 1 := by simp
     refine ⟨0, l ++ [byI x 0], some ⟨g, 0, none⟩, cap, by simp, by omega, by rw [hlen]; omega, lhid (by rw [hlen]; exact HMn.out), lhid (.inr (by rw [hlen]; exact HWn.out)), HBn, HSn, lhid ?_⟩
     rw [← HE.out, beW, List.append_assoc]
     rfl
    case measure => simp [intOf]
  ·have wl : IntKind.i64.wrap 8 = 8 := rfl
   have m0 := heap_cell (i := 0) HMr.out rfl
   have mz := heap_thaw HMr.out 0
   have h63 : l.length + 1 ≤ maxLen := by unfold maxLen; omega
   have hby : (l.length + 1) * 1 ≤ 140737488355328 := by omega
   have H1C : Hid (∀ u ∈ ([.int .u8 (IntKind.u8.wrap (x / 256))] : List Value), u.oneCell' = true) := lhid (by intro u hu; simp at hu; subst hu; rfl)
   go_upto_region 3 with fail
   refine wp_region_any (by kernel_rfl) ?_
   try (change wpAny _ _ _ _ _ _ _ (World.drew _))
   refine wpAny_take (i := 0) (v := ?v0_27) rfl (by kernel_rfl) (by kernel_rfl) (by kernel_rfl) (fun _ _ _ h => h) (Or.inl ⟨by rfl, ?hy0_27⟩) ?rest0_27
   case hy0_27 => intro w; (first | (go_simp; done) | (go_simp; with_reducible rfl))
   refine wpAny_take (i := 1) (v := ?v1_28) rfl (by kernel_rfl) (by kernel_rfl) (by kernel_rfl) (fun _ _ _ h => h) (Or.inl ⟨by rfl, ?hy1_28⟩) ?rest1_28
   case hy1_28 => intro w; (first | (go_simp; done) | (go_simp; with_reducible rfl))
   refine wpAny_take (i := 2) (v := ?v2_29) rfl (by kernel_rfl) (by kernel_rfl) (by kernel_rfl) (fun _ _ _ h => h) (Or.inl ⟨by rfl, ?hy2_29⟩) ?rest2_29
   case hy2_29 => intro w; (first | (go_simp; done) | (go_simp; with_reducible rfl))
   refine wpAny_take (i := 3) (v := ?v3_30) rfl (by kernel_rfl) (by kernel_rfl) (by kernel_rfl) (fun _ _ _ h => h) (Or.inl ⟨by rfl, ?hy3_30⟩) ?rest3_30
   case hy3_30 => intro w; (first | (go_simp; done) | (go_simp; with_reducible rfl))
   refine wpAny_take (i := 5) (v := ?v5_31) rfl (by kernel_rfl) (by kernel_rfl) (by kernel_rfl) (fun _ _ _ h => h) (Or.inl ⟨by rfl, ?hy5_31⟩) ?rest5_31
   case hy5_31 => intro w; (first | (go_simp; done) | (go_simp; with_reducible rfl))
   refine wpAny_take (i := 6) (v := ?v6_32) rfl (by kernel_rfl) (by kernel_rfl) (by kernel_rfl) (fun _ _ _ h => h) (Or.inl ⟨by rfl, ?hy6_32⟩) ?rest6_32
   case hy6_32 => intro w; (first | (go_simp; done) | (go_simp; with_reducible rfl))
   refine wpAny_take (i := 7) (v := ?v7_33) rfl (by kernel_rfl) (by kernel_rfl) (by kernel_rfl) (fun _ _ _ h => h) (Or.inl ⟨by rfl, ?hy7_33⟩) ?rest7_33
   case hy7_33 => intro w; (first | (go_simp; done) | (go_simp; with_reducible rfl))
   refine wpAny_take (i := 8) (v := ?v8_34) rfl (by kernel_rfl) (by kernel_rfl) (by kernel_rfl) (fun _ _ _ h => h) (Or.inl ⟨by rfl, ?hy8_34⟩) ?rest8_34
   case hy8_34 => intro w; (first | (go_simp; done) | (go_simp; with_reducible rfl))
   refine wpAny_take (i := 9) (v := ?v9_35) rfl (by kernel_rfl) (by kernel_rfl) (by kernel_rfl) (fun _ _ _ h => h) (Or.inl ⟨by rfl, ?hy9_35⟩) ?rest9_35
   case hy9_35 => intro w; (first | (go_simp; done) | (go_simp; with_reducible rfl))
   refine wpAny_ready (rs := [4, 10]) (by kernel_rfl) (by simp) ?_
   refine AllReady.cons rfl (fun K hK => ?_) (AllReady.cons rfl (fun K hK => ?_) AllReady.nil)
   ·go_simp
    refine hK _ _ ?_
    clear hK K
    refine wpAny_ready (rs := [10]) (by kernel_rfl) (by simp) ?_
    refine AllReady.cons rfl (fun K hK => ?_) AllReady.nil
    go_simp
    refine hK _ _ ?_
    clear hK K
    have HMa : Hid ((wr.alloc (.cells #[.int .u8 (IntKind.u8.wrap (x / 256))] 5 (0, 0))).drew.heap[M]? = some (.cells #[.slice A l.length c, pv, .bool false] 52 (0, 0))) := lhid ((Below.heap_alloc wr (.cells #[.int .u8 (IntKind.u8.wrap (x / 256))] 5 (0, 0)) _ (heap_lt HMr.out)).trans HMr.out)
    have HWa : Hid ((wr.alloc (.cells #[.int .u8 (IntKind.u8.wrap (x / 256))] 5 (0, 0))).drew.ownsRow B 5 1 (.slice A l.length c) l.length (byV l)) := lhid (own_far (HWr.out.alloc (.cells #[.int .u8 (IntKind.u8.wrap (x / 256))] 5 (0, 0))) (w' := (wr.alloc (.cells #[.int .u8 (IntKind.u8.wrap (x / 256))] 5 (0, 0))).drew) fun _ _ => rfl)
    have HBa : Hid (Below B w (wr.alloc (.cells #[.int .u8 (IntKind.u8.wrap (x / 256))] 5 (0, 0))).drew) := lhid ((HBr.out.alloc (Nat.le_trans hB HBr.out.size) (.cells #[.int .u8 (IntKind.u8.wrap (x / 256))] 5 (0, 0))).drew)
    have HSa : Hid (Stay tW w (wr.alloc (.cells #[.int .u8 (IntKind.u8.wrap (x / 256))] 5 (0, 0))).drew) := lhid ((HSr.out.alloc (.cells #[.int .u8 (IntKind.u8.wrap (x / 256))] 5 (0, 0))).drew)
    have HNa : Hid ((wr.alloc (.cells #[.int .u8 (IntKind.u8.wrap (x / 256))] 5 (0, 0))).drew.heap[wr.heap.size]? = some (.cells #[.int .u8 (IntKind.u8.wrap (x / 256))] 5 (0, 0))) := lhid (heap_alloc_new wr (.cells #[.int .u8 (IntKind.u8.wrap (x / 256))] 5 (0, 0)))
    have m0a := heap_cell (i := 0) HMa.out rfl
    refine wpAny_ready (rs := [11]) (by kernel_rfl) (by simp) ?_
    refine AllReady.cons rfl (fun K hK => ?_) AllReady.nil
    refine step_append_lies _ rfl (.tmp 17) (.tmp 23) 28 rfl B 5 i0 (.int .u8 0) 1 1 Tryz.underlying28 hi0 hz0 hz1 hz2 rfl (by decide) (.slice A l.length c) l.length (byV l) rfl HWa.out _ 1 _ [.int .u8 (IntKind.u8.wrap (x / 256))] rfl rfl (World.news_of_block HNa.out) H1C.out (by decide) h63 hby (Nat.le_trans hB HBa.out.size) _ rfl ?_
    intro g cap w6 hown hgrow hat hlt6
    have hge := own_lt HWa.out
    have hM6 : w6.heap[M]? = some (.cells #[.slice A l.length c, pv, .bool false] 52 (0, 0)) := (grown_stay (Ts := [52]) hgrow HWa.out (by decide)) M _ _ _ (by simp) HMa.out
    have q6 := heap_cell (i := 0) hM6 rfl
    have z6 := heap_thaw hM6 0
    refine hK _ _ ?_
    clear hK K
    refine wpAny_take (i := 12) (v := ?v12_36) rfl (by kernel_rfl) (by kernel_rfl) (by kernel_rfl) (fun _ _ _ h => h) (Or.inl ⟨by rfl, ?hy12_36⟩) ?rest12_36
    case hy12_36 => intro w; (first | (go_simp; done) | (go_simp; with_reducible rfl))
    refine wpAny_take (i := 13) (v := ?v13_37) rfl (by kernel_rfl) (by kernel_rfl) (by kernel_rfl) (fun _ _ _ h => h) (Or.inl ⟨by rfl, ?hy13_37⟩) ?rest13_37
    case hy13_37 => intro w; (first | (go_simp; done) | (go_simp; with_reducible rfl))
    refine wpAny_ready (rs := [14]) (by kernel_rfl) (by simp) ?_
    refine AllReady.cons rfl (fun K hK => ?_) AllReady.nil
    go_simp
    refine hK _ _ ?_
    clear hK K
    refine wpAny_done (by kernel_rfl) ?_ _
    have hcap : byV (l ++ [byI x 1]) = byV l ++ [.int .u8 (IntKind.u8.wrap (x / 256))] := by rw [byV_app]; simp only [byV, List.map_cons, List.map_nil]; rw [byI_pow x 1 256 (by decide)]
    have HMn : Hid ((w6.setCell ⟨M, 0, none⟩ (.slice (some ⟨g, 0, none⟩) (l.length + 1) cap)).heap[M]? = some (.cells #[.slice (some ⟨g, 0, none⟩) (l.length + 1) cap, pv, .bool false] 52 (0, 0))) := lhid (heap_set hM6 _)
    have HWn : Hid ((w6.setCell ⟨M, 0, none⟩ (.slice (some ⟨g, 0, none⟩) (l.length + 1) cap)).ownsRow B 5 1 (.slice (some ⟨g, 0, none⟩) (l.length + 1) cap) (l.length + 1) (byV (l ++ [byI x 1]))) := lhid (by rw [hcap]; exact own_stay hown ((Stay.refl [5] w6).set (p := ⟨M, 0, none⟩) hM6 (by decide) _) (by simp))
    have HBn : Hid (Below B w (w6.setCell ⟨M, 0, none⟩ (.slice (some ⟨g, 0, none⟩) (l.length + 1) cap))) := lhid ((HBa.out.trans (grownBelow hgrow hge (Nat.le_trans hB HBa.out.size))).setCell (p := ⟨M, 0, none⟩) hBM _)
    have HSn : Hid (Stay tW w (w6.setCell ⟨M, 0, none⟩ (.slice (some ⟨g, 0, none⟩) (l.length + 1) cap))) := lhid ((HSa.out.trans (grown_stay hgrow HWa.out (by decide))).set (p := ⟨M, 0, none⟩) hM6 (by decide) _)
    clear hown hgrow hat hge hlt6 hM6 q6 z6 hcap
    go_wp2
    go_roundw
    case rel =>
     have hlen : (l ++ [byI x 1]).length = l.length + 1 := by simp
     refine ⟨1, l ++ [byI x 1], some ⟨g, 0, none⟩, cap, by simp, by omega, by rw [hlen]; omega, lhid (by rw [hlen]; exact HMn.out), lhid (.inr (by rw [hlen]; exact HWn.out)), HBn, HSn, lhid ?_⟩
     rw [← HE.out, beW, List.append_assoc]
     rfl
    case measure => simp [intOf]
   ·go_simp
    refine hK _ _ ?_
    clear hK K
    have HMa : Hid ((wr.alloc (.cells #[.int .u8 (IntKind.u8.wrap (x / 256))] 5 (0, 0))).drew.heap[M]? = some (.cells #[.slice A l.length c, pv, .bool false] 52 (0, 0))) := lhid ((Below.heap_alloc wr (.cells #[.int .u8 (IntKind.u8.wrap (x / 256))] 5 (0, 0)) _ (heap_lt HMr.out)).trans HMr.out)
    have HWa : Hid ((wr.alloc (.cells #[.int .u8 (IntKind.u8.wrap (x / 256))] 5 (0, 0))).drew.ownsRow B 5 1 (.slice A l.length c) l.length (byV l)) := lhid (own_far (HWr.out.alloc (.cells #[.int .u8 (IntKind.u8.wrap (x / 256))] 5 (0, 0))) (w' := (wr.alloc (.cells #[.int .u8 (IntKind.u8.wrap (x / 256))] 5 (0, 0))).drew) fun _ _ => rfl)
    have HBa : Hid (Below B w (wr.alloc (.cells #[.int .u8 (IntKind.u8.wrap (x / 256))] 5 (0, 0))).drew) := lhid ((HBr.out.alloc (Nat.le_trans hB HBr.out.size) (.cells #[.int .u8 (IntKind.u8.wrap (x / 256))] 5 (0, 0))).drew)
    have HSa : Hid (Stay tW w (wr.alloc (.cells #[.int .u8 (IntKind.u8.wrap (x / 256))] 5 (0, 0))).drew) := lhid ((HSr.out.alloc (.cells #[.int .u8 (IntKind.u8.wrap (x / 256))] 5 (0, 0))).drew)
    have HNa : Hid ((wr.alloc (.cells #[.int .u8 (IntKind.u8.wrap (x / 256))] 5 (0, 0))).drew.heap[wr.heap.size]? = some (.cells #[.int .u8 (IntKind.u8.wrap (x / 256))] 5 (0, 0))) := lhid (heap_alloc_new wr (.cells #[.int .u8 (IntKind.u8.wrap (x / 256))] 5 (0, 0)))
    have m0a := heap_cell (i := 0) HMa.out rfl
    refine wpAny_ready (rs := [4]) (by kernel_rfl) (by simp) ?_
    refine AllReady.cons rfl (fun K hK => ?_) AllReady.nil
    go_simp
    refine hK _ _ ?_
    clear hK K
    refine wpAny_ready (rs := [11]) (by kernel_rfl) (by simp) ?_
    refine AllReady.cons rfl (fun K hK => ?_) AllReady.nil
    refine step_append_lies _ rfl (.tmp 17) (.tmp 23) 28 rfl B 5 i0 (.int .u8 0) 1 1 Tryz.underlying28 hi0 hz0 hz1 hz2 rfl (by decide) (.slice A l.length c) l.length (byV l) rfl HWa.out _ 1 _ [.int .u8 (IntKind.u8.wrap (x / 256))] rfl rfl (World.news_of_block HNa.out) H1C.out (by decide) h63 hby (Nat.le_trans hB HBa.out.size) _ rfl ?_
    intro g cap w6 hown hgrow hat hlt6
    have hge := own_lt HWa.out
    have hM6 : w6.heap[M]? = some (.cells #[.slice A l.length c, pv, .bool false] 52 (0, 0)) := (grown_stay (Ts := [52]) hgrow HWa.out (by decide)) M _ _ _ (by simp) HMa.out
    have q6 := heap_cell (i := 0) hM6 rfl
    have z6 := heap_thaw hM6 0
    refine hK _ _ ?_
    clear hK K
    refine wpAny_take (i := 12) (v := ?v12_38) rfl (by kernel_rfl) (by kernel_rfl) (by kernel_rfl) (fun _ _ _ h => h) (Or.inl ⟨by rfl, ?hy12_38⟩) ?rest12_38
    case hy12_38 => intro w; (first | (go_simp; done) | (go_simp; with_reducible rfl))
    refine wpAny_take (i := 13) (v := ?v13_39) rfl (by kernel_rfl) (by kernel_rfl) (by kernel_rfl) (fun _ _ _ h => h) (Or.inl ⟨by rfl, ?hy13_39⟩) ?rest13_39
    case hy13_39 => intro w; (first | (go_simp; done) | (go_simp; with_reducible rfl))
    refine wpAny_ready (rs := [14]) (by kernel_rfl) (by simp) ?_
    refine AllReady.cons rfl (fun K hK => ?_) AllReady.nil
    go_simp
    refine hK _ _ ?_
    clear hK K
    refine wpAny_done (by kernel_rfl) ?_ _
    have hcap : byV (l ++ [byI x 1]) = byV l ++ [.int .u8 (IntKind.u8.wrap (x / 256))] := by rw [byV_app]; simp only [byV, List.map_cons, List.map_nil]; rw [byI_pow x 1 256 (by decide)]
    have HMn : Hid ((w6.setCell ⟨M, 0, none⟩ (.slice (some ⟨g, 0, none⟩) (l.length + 1) cap)).heap[M]? = some (.cells #[.slice (some ⟨g, 0, none⟩) (l.length + 1) cap, pv, .bool false] 52 (0, 0))) := lhid (heap_set hM6 _)
    have HWn : Hid ((w6.setCell ⟨M, 0, none⟩ (.slice (some ⟨g, 0, none⟩) (l.length + 1) cap)).ownsRow B 5 1 (.slice (some ⟨g, 0, none⟩) (l.length + 1) cap) (l.length + 1) (byV (l ++ [byI x 1]))) := lhid (by rw [hcap]; exact own_stay hown ((Stay.refl [5] w6).set (p := ⟨M, 0, none⟩) hM6 (by decide) _) (by simp))
    have HBn : Hid (Below B w (w6.setCell ⟨M, 0, none⟩ (.slice (some ⟨g, 0, none⟩) (l.length + 1) cap))) := lhid ((HBa.out.trans (grownBelow hgrow hge (Nat.le_trans hB HBa.out.size))).setCell (p := ⟨M, 0, none⟩) hBM _)
    have HSn : Hid (Stay tW w (w6.setCell ⟨M, 0, none⟩ (.slice (some ⟨g, 0, none⟩) (l.length + 1) cap))) := lhid ((HSa.out.trans (grown_stay hgrow HWa.out (by decide))).set (p := ⟨M, 0, none⟩) hM6 (by decide) _)
    clear hown hgrow hat hge hlt6 hM6 q6 z6 hcap
    go_wp2
    go_roundw
    case rel =>
     have hlen : (l ++ [byI x 1]).length = l.length + 1 := by simp
     refine ⟨1, l ++ [byI x 1], some ⟨g, 0, none⟩, cap, by simp, by omega, by rw [hlen]; omega, lhid (by rw [hlen]; exact HMn.out), lhid (.inr (by rw [hlen]; exact HWn.out)), HBn, HSn, lhid ?_⟩
     rw [← HE.out, beW, List.append_assoc]
     rfl
    case measure => simp [intOf]
end Go.Proofs.YtgihfcimngogfaaGreat
