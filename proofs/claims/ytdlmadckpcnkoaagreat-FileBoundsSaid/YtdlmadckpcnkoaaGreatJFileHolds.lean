/- Contracts of law 04's least and holds. -/
import Derived.Test.YtdlmadckpcnkoaaGreatJFileWr4
import Derived.Test.YtdlmadckpcnkoaaGreatJFileLeast
import Derived.Test.YtdlmadckpcnkoaaGreatM14
namespace Go.Proofs.YtdlmadckpcnkoaaGreat
open Go.RowKit Go
set_option linter.unusedVariables false

abbrev leastB : Bs := [82, 69, 71, 76, 0, 5, 1, 0, 1, 97, 1, 0, 6, 79, 98, 106, 101, 99, 116, 7, 0, 1, 7, 0, 2, 0, 0, 0, 3, 0, 4, 0, 0, 0, 0, 0, 0]
abbrev OP : Obj := .cells #[.int .i64 0, .int .i64 0, .string ⟨#[]⟩, .string ⟨#[]⟩, .string ⟨#[]⟩, .int .i64 1, .int .i64 0, .string ⟨#[97]⟩, .string ⟨#[]⟩, .string ⟨#[]⟩, .int .i64 1, .int .i64 0, .string ⟨#[79, 98, 106, 101, 99, 116]⟩, .string ⟨#[]⟩, .string ⟨#[]⟩, .int .i64 7, .int .i64 0, .string ⟨#[97]⟩, .string ⟨#[]⟩, .string ⟨#[]⟩, .int .i64 7, .int .i64 0, .string ⟨#[79, 98, 106, 101, 99, 116]⟩, .string ⟨#[]⟩, .string ⟨#[]⟩] 52
theorem least_rows (w : World) : RowsAt (w.alloc OP) w.heap.size 52 5 (leastC.pool.map conV) := by
  refine ⟨_, heap_alloc_new w OP, rfl, fun i r hr => ?_⟩
  match i, hr with
  | 0, hr => cases hr; exact ⟨rfl, fun j v hj => by match j, hj with | 0, h => exact h | 1, h => exact h | 2, h => exact h | 3, h => exact h | 4, h => exact h⟩
  | 1, hr => cases hr; exact ⟨rfl, fun j v hj => by match j, hj with | 0, h => exact h | 1, h => exact h | 2, h => exact h | 3, h => exact h | 4, h => exact h⟩
  | 2, hr => cases hr; exact ⟨rfl, fun j v hj => by match j, hj with | 0, h => exact h | 1, h => exact h | 2, h => exact h | 3, h => exact h | 4, h => exact h⟩
  | 3, hr => cases hr; exact ⟨rfl, fun j v hj => by match j, hj with | 0, h => exact h | 1, h => exact h | 2, h => exact h | 3, h => exact h | 4, h => exact h⟩
  | 4, hr => cases hr; exact ⟨rfl, fun j v hj => by match j, hj with | 0, h => exact h | 1, h => exact h | 2, h => exact h | 3, h => exact h | 4, h => exact h⟩
theorem least_small : ClS leastC := ⟨by decide, by decide, by decide, by decide, fun m hm => by simp [leastC] at hm⟩
theorem least_val (w : World) : ClIV (w.alloc OP) (clI leastC) (.agg #[.int .i64 0, .string ⟨#[97]⟩, .string ⟨#[79, 98, 106, 101, 99, 116]⟩, .slice none 0 0, .slice (some ⟨w.heap.size, 0, none⟩) 5 5, .slice none 0 0, .slice none 0 0]) :=
  cls_rd (c := leastC) least_small ⟨[], World.ownsRow_nil _ _ _ _, rfl⟩ (least_rows w) ⟨[], World.ownsRow_nil _ _ _ _, rfl⟩ ⟨[], World.ownsRow_nil _ _ _ _, rfl⟩
theorem least_pool : ∀ x, x ∈ (clI leastC).pool.drop 1 → (x.kind = 1 ∨ x.kind = 7) ∧ x.text.length ≤ 1000 := by
  intro x hx
  have h : x ∈ [(⟨1, 0, [97], [], []⟩ : CoI), ⟨1, 0, objB, [], []⟩, ⟨7, 0, [97], [], []⟩, ⟨7, 0, objB, [], []⟩] := hx
  simp only [List.mem_cons, List.not_mem_nil, or_false] at h
  rcases h with rfl | rfl | rfl | rfl <;> decide
set_option maxHeartbeats 8000000 in
set_option maxRecDepth 100000 in
theorem least_any (hparse : Hid (∀ (v : Value) (l : Bs) (w : World), Hid (RdB w v l) → Calls Tryz.prog 15 #[v] w (POut (parP l) w))) (w : World) :
    Calls Tryz.prog 28 #[] w fun e w' => (∃ A c, e = .returned (.slice A 37 c) ∧ w'.ownsRow w.heap.size 5 1 (.slice A 37 c) 37 (byV leastB)) ∧ Below w.heap.size w w' := by
  have HB := lhid ((Below.refl w.heap.size w).alloc (Nat.le_refl _) OP)
  have HCV := lhid (least_val w)
  go_enter Tryz.func28, Tryz.ntmps28
  go_wp2_with fail
  with_reducible refine (wbare_any (clI leastC) _ _ HCV rfl rfl rfl (lhid least_pool) (by decide) leastC [] (lhid (by rw [least_bytes]; exact least_par)) (lhid rfl) (lhid least_small) (lhid (by rw [least_bytes])) hparse).mono ?_
  rintro e w2 ⟨⟨v, rfl, hO⟩, hb⟩
  rw [least_bytes] at hO
  obtain ⟨A, c, rfl⟩ := own_shape hO
  have HO := lhid hO
  have HB2 := lhid (HB.out.trans (below_lt hb HB.out.size))
  have HSZ := lhid HB.out.size
  clear hO hb
  go_wp2_with fail
  go_ret
  exact ⟨⟨A, c, rfl, own_base HO.out HSZ.out⟩, HB2.out⟩
set_option maxHeartbeats 8000000 in
set_option maxRecDepth 100000 in
theorem fholds_any (hparse : Hid (∀ (v : Value) (l : Bs) (w : World), Hid (RdB w v l) → Calls Tryz.prog 15 #[v] w (POut (parP l) w))) (w : World) :
    Calls Tryz.prog 13 #[] w fun e w' => e = .returned (.bool true) ∧ Below w.heap.size w w' := by
  go_enter Tryz.func13, Tryz.ntmps13
  go_wp2_with fail
  with_reducible refine (least_any hparse w).mono ?_
  rintro e w1 ⟨⟨A, c, rfl, hO⟩, hb⟩
  have HB1 := lhid hb
  have HR1 : Hid (RdB w1 (.slice A 37 c) leastB) := lhid (own_rdB (l := leastB) hO)
  clear hO hb
  go_wp2_with fail
  with_reducible refine (parse_any _ _ _ HR1).mono ?_
  rintro e w2 ⟨hb, hx⟩
  rw [show parP leastB = .ok leastC [] from least_par] at hx
  obtain ⟨cv, g, rfl, xa, xb, xd, rfl, v1, v2, v3, v4⟩ := hx
  obtain ⟨B1, d1, rfl⟩ := slO_shape v1
  obtain ⟨B3, d3, rfl⟩ := slO_shape v3
  obtain ⟨B4, d4, rfl⟩ := slO_shape v4
  have HB2 := lhid (HB1.out.trans (below_lt hb HB1.out.size))
  clear hb v1 v2 v3 v4
  have HB3 := lhid (HB2.out.alloc HB2.out.size (.cells #[.int .i64 leastC.flags, .string (tx leastC.name), .string (tx leastC.super), .slice B1 leastC.ifaces.length d1, .slice (some ⟨g, 0, none⟩) leastC.pool.length leastC.pool.length, .slice B3 leastC.fields.length d3, .slice B4 leastC.methods.length d4] 29))
  have HX3 := lhid (heap_alloc_new w2 (.cells #[.int .i64 leastC.flags, .string (tx leastC.name), .string (tx leastC.super), .slice B1 leastC.ifaces.length d1, .slice (some ⟨g, 0, none⟩) leastC.pool.length leastC.pool.length, .slice B3 leastC.fields.length d3, .slice B4 leastC.methods.length d4] 29))
  go_wp2_with fail
  with_reducible refine (least_any hparse _).mono ?_
  rintro e w4 ⟨⟨A', c', rfl, hO⟩, hb⟩
  have HB4 := lhid (HB3.out.trans (below_lt hb HB3.out.size))
  have HX4 : Hid (w4.heap[w2.heap.size]? = some (.cells #[.int .i64 leastC.flags, .string (tx leastC.name), .string (tx leastC.super), .slice B1 leastC.ifaces.length d1, .slice (some ⟨g, 0, none⟩) leastC.pool.length leastC.pool.length, .slice B3 leastC.fields.length d3, .slice B4 leastC.methods.length d4] 29)) := lhid ((hb.block _ (heap_lt HX3.out)).trans HX3.out)
  have HO4 := lhid hO
  have hsz := hb.size
  clear hO hb
  obtain ⟨i0, hi0, hz0, hz1, hz2⟩ := info_parts infoU8
  have HOa : Hid ((w4.alloc (.cells #[.int .u8 0] 5)).ownsRow w.heap.size 5 1 (.slice A' 37 c') 37 (byV leastB)) := lhid ((own_base HO4.out HB3.out.size).alloc _)
  have HNa : Hid ((w4.alloc (.cells #[.int .u8 0] 5)).heap[w4.heap.size]? = some (.cells #[.int .u8 0] 5)) := lhid (heap_alloc_new w4 _)
  have HXa : Hid ((w4.alloc (.cells #[.int .u8 0] 5)).heap[w2.heap.size]? = some (.cells #[.int .i64 leastC.flags, .string (tx leastC.name), .string (tx leastC.super), .slice B1 leastC.ifaces.length d1, .slice (some ⟨g, 0, none⟩) leastC.pool.length leastC.pool.length, .slice B3 leastC.fields.length d3, .slice B4 leastC.methods.length d4] 29)) := lhid ((Below.heap_alloc w4 _ _ (heap_lt HX4.out)).trans HX4.out)
  have HBa : Hid (Below w.heap.size w (w4.alloc (.cells #[.int .u8 0] 5))) := lhid (HB4.out.alloc HB4.out.size _)
  go_wp2_with (at_builtin; refine wpList_append_own _ rfl (.tmp 11) (.tmp 12) 22 rfl w.heap.size 5 i0 (.int .u8 0) 1 1 Tryz.underlying22 hi0 hz0 hz1 hz2 rfl (by decide) (.slice A' 37 c') 37 (byV leastB) rfl HOa.out ⟨w4.heap.size, 0, none⟩ 1 1 [.int .u8 0] rfl rfl (World.news_of_block HNa.out) ?c2 ?c3 ?c4 HBa.out.size ?_)
  case c2 => intro u hu; simp at hu; subst hu; rfl
  case c3 => unfold maxLen; omega
  case c4 => omega
  intro v' w6 hown hgrow _
  obtain ⟨A6, c6, rfl⟩ := own_shape hown
  have HB6 := lhid (HBa.out.trans (grownBelow hgrow (own_lt HOa.out) HBa.out.size))
  have HX6 : Hid (w6.heap[w2.heap.size]? = some (.cells #[.int .i64 leastC.flags, .string (tx leastC.name), .string (tx leastC.super), .slice B1 leastC.ifaces.length d1, .slice (some ⟨g, 0, none⟩) leastC.pool.length leastC.pool.length, .slice B3 leastC.fields.length d3, .slice B4 leastC.methods.length d4] 29)) := lhid ((grown_stay (Ts := [29]) hgrow HOa.out (by decide)) _ _ _ _ (by simp) HXa.out)
  have HR6 : Hid (RdB w6 (.slice A6 (37 + 1) c6) (leastB ++ [0])) := lhid (own_rdB (l := leastB ++ [0]) hown)
  clear hown hgrow
  go_wp2_with fail
  with_reducible refine (parse_any _ _ _ HR6).mono ?_
  rintro e w7 ⟨hb, hx⟩
  rw [show parP (leastB ++ [0]) = .er 11 from least_more] at hx
  obtain rfl := hx
  have HB7 := lhid (HB6.out.trans (below_lt hb HB6.out.size))
  have HX7 : Hid (w7.heap[w2.heap.size]? = some (.cells #[.int .i64 leastC.flags, .string (tx leastC.name), .string (tx leastC.super), .slice B1 leastC.ifaces.length d1, .slice (some ⟨g, 0, none⟩) leastC.pool.length leastC.pool.length, .slice B3 leastC.fields.length d3, .slice B4 leastC.methods.length d4] 29)) := lhid ((hb.block _ (heap_lt HX6.out)).trans HX6.out)
  clear hb
  have HX8 := lhid ((Below.heap_alloc w7 zC _ (heap_lt HX7.out)).trans HX7.out)
  have HB8 := lhid (HB7.out.alloc HB7.out.size zC)
  have x1 := heap_cell (i := 1) HX8.out rfl
  have x2 := heap_cell (i := 2) HX8.out rfl
  have x4 := heap_cell (i := 4) HX8.out rfl
  have f1 : ((tx leastC.name).toList == [97]) = true := by rw [tx_toList]; rfl
  have f2 : ((tx leastC.super).toList == [79, 98, 106, 101, 99, 116]) = true := by rw [tx_toList]; rfl
  have f3 : ((leastC.pool.length : Int) == 5) = true := rfl
  go_wp2_with fail
  go_ret
  exact ⟨rfl, HB8.out⟩
end Go.Proofs.YtdlmadckpcnkoaaGreat
