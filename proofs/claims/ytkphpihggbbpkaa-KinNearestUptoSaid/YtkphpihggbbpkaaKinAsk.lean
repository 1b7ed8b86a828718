/- What a tree answers: find, Class, Names, line. -/
import Derived.Test.YtkphpihggbbpkaaKinNew
namespace Go.Proofs.Ytkphpihggbbpkaa
open Go.RowKit Go Go.Maps
set_option linter.unusedVariables false

theorem TreeOK.below {B : Nat} {w w' : World} {tb : Nat} {L : List ClI} (h : TreeOK B w tb L) (hb : Below w.heap.size w w') : TreeOK B w' tb L := by
  obtain ⟨⟨cb, ab, n, v, h1, h2, h3, f, h4, h5⟩, h6⟩ := h
  refine ⟨⟨cb, ab, n, v, h1.below hb, h2.below (keptX_st _) hb, h3.below hb, f, h4.below hb, fun s => ⟨fun hs => ?_, (h5 s).2⟩⟩, h6⟩
  obtain ⟨sb, S, q3, q4, q5, q6⟩ := (h5 s).1 hs
  exact ⟨sb, S, q3, q4.below hb, q5, q6⟩
abbrev zC : Value := .agg #[.int .i64 0, .string ⟨#[]⟩, .string ⟨#[]⟩, .slice none 0 0, .slice none 0 0, .slice none 0 0, .slice none 0 0]
/-- What find answers: the class's cells, or zeros. -/
def FindV (P : Nat → Prop) (w : World) (L : List ClI) (s : Bs) (v : Value) (ok : Bool) : Prop :=
  (findC L s = none ∧ v = zC ∧ ok = false) ∨ ∃ c a p b d, findC L s = some c ∧ ok = true ∧ v = .agg #[.int .i64 c.flags, .string (tx c.name), .string (tx c.super), a, p, b, d] ∧ RdX P 1 StE w a c.ifaces ∧ RdX P 5 CoE w p c.pool ∧ RdX P 3 FlE w b c.fields ∧ RdX P 8 (MeE P) w d c.methods
set_option maxHeartbeats 8000000 in
set_option maxRecDepth 100000 in
theorem find_any (B tb : Nat) (L : List ClI) (s : Bs) (w : World) (hT : Hid (TreeOK B w tb L)) (hs : s.length ≤ maxLen) :
    Calls Try.prog 25 #[.pointer (some ⟨tb, 0, none⟩), .string (tx s)] w fun e w' => ∃ v ok, e = .returned (.tuple #[v, .bool ok]) ∧ FindV (fun g => B ≤ g) w' L s v ok ∧ Below w.heap.size w w' := by
  obtain ⟨⟨cb, ab, n, v0, h1, h2, h3, h4⟩, h6⟩ := hT.out
  have HB1 := (Below.refl w.heap.size w).alloc (Nat.le_refl _) (.cells #[.int .i64 0, .string ⟨#[]⟩, .string ⟨#[]⟩, .slice none 0 0, .slice none 0 0, .slice none 0 0, .slice none 0 0] 35)
  have t1 := heap_cell (i := 1) (h1.below HB1) rfl
  have HX0 := lhid (heap_alloc_new w (.cells #[.int .i64 0, .string ⟨#[]⟩, .string ⟨#[]⟩, .slice none 0 0, .slice none 0 0, .slice none 0 0, .slice none 0 0] 35))
  have HBB := lhid HB1
  obtain ⟨f, hm0, hfs⟩ := h3
  have HM := lhid (hm0.below HB1)
  clear h1 h2 h4 HB1 hm0
  cases hf : findC L s with
  | none =>
    have HFU := lhid ((hfs s).1 hf)
    have HF := lhid hf
    clear hf hfs
    have HY : Hid (((w.alloc (.cells #[.int .i64 0, .string ⟨#[]⟩, .string ⟨#[]⟩, .slice none 0 0, .slice none 0 0, .slice none 0 0, .slice none 0 0] 35)).alloc (.cells #[.int .i64 0, .string ⟨#[]⟩, .string ⟨#[]⟩, .slice none 0 0, .slice none 0 0, .slice none 0 0, .slice none 0 0] 35)).heap[w.heap.size]? = some (.cells #[.int .i64 0, .string ⟨#[]⟩, .string ⟨#[]⟩, .slice none 0 0, .slice none 0 0, .slice none 0 0, .slice none 0 0] 35 (0, 0))) := lhid ((Below.heap_alloc _ _ _ (by simp)).trans HX0.out)
    have y0 := heap_cell (i := 0) HY.out rfl
    have z0 := heap_thaw HY.out 0
    have y1 := heap_cell (i := 1) HY.out rfl
    have z1 := heap_thaw HY.out 1
    have y2 := heap_cell (i := 2) HY.out rfl
    have z2 := heap_thaw HY.out 2
    have y3 := heap_cell (i := 3) HY.out rfl
    have z3 := heap_thaw HY.out 3
    have y4 := heap_cell (i := 4) HY.out rfl
    have z4 := heap_thaw HY.out 4
    have y5 := heap_cell (i := 5) HY.out rfl
    have z5 := heap_thaw HY.out 5
    have y6 := heap_cell (i := 6) HY.out rfl
    have z6 := heap_thaw HY.out 6
    go_enter Try.func25, Try.ntmps25
    go_wp2_with (at_lookup; refine wpList_lookok_mv _ rfl _ _ 58 rfl _ und_cm _ (zero_cl _) cb _ f rfl HM.out s rfl hs (.agg #[.int .i64 0, .string ⟨#[]⟩, .string ⟨#[]⟩, .slice none 0 0, .slice none 0 0, .slice none 0 0, .slice none 0 0]) (by rw [HFU.out]; rfl) false (by rw [HFU.out]; rfl) ?_)
    go_wp2_with fail
    refine bodyPost_ret (v := .tuple #[.agg #[.int .i64 0, .string ⟨#[]⟩, .string ⟨#[]⟩, .slice none 0 0, .slice none 0 0, .slice none 0 0, .slice none 0 0], .bool false]) (by simp [results, Try.results25, go_sem]) rfl ?_
    have hbf : Below w.heap.size w ((w.alloc (.cells #[.int .i64 0, .string ⟨#[]⟩, .string ⟨#[]⟩, .slice none 0 0, .slice none 0 0, .slice none 0 0, .slice none 0 0] 35)).alloc (.cells #[.int .i64 0, .string ⟨#[]⟩, .string ⟨#[]⟩, .slice none 0 0, .slice none 0 0, .slice none 0 0, .slice none 0 0] 35)) := ((Below.refl w.heap.size w).alloc (Nat.le_refl _) _).alloc (by simp) _
    exact ⟨_, false, rfl, .inl ⟨HF.out, rfl, rfl⟩, hbf⟩
  | some y =>
    obtain ⟨u, hfu, cy, rfl, a', p', b', d', rfl, r1, r2, r3, r4⟩ := (hfs s).2 y hf
    obtain ⟨ya, da, rfl⟩ := r1.shape
    obtain ⟨yp, dp, rfl⟩ := r2.shape
    obtain ⟨yb, db, rfl⟩ := r3.shape
    obtain ⟨yd, dd, rfl⟩ := r4.shape
    have HFU := lhid hfu
    have HF := lhid hf
    have R1 := lhid r1
    have R2 := lhid r2
    have R3 := lhid r3
    have R4 := lhid r4
    clear hf hfs hfu r1 r2 r3 r4
    have HY : Hid (((w.alloc (.cells #[.int .i64 0, .string ⟨#[]⟩, .string ⟨#[]⟩, .slice none 0 0, .slice none 0 0, .slice none 0 0, .slice none 0 0] 35)).alloc (.cells #[.int .i64 y.flags, .string (tx y.name), .string (tx y.super), .slice ya y.ifaces.length da, .slice yp y.pool.length dp, .slice yb y.fields.length db, .slice yd y.methods.length dd] 35)).heap[w.heap.size]? = some (.cells #[.int .i64 0, .string ⟨#[]⟩, .string ⟨#[]⟩, .slice none 0 0, .slice none 0 0, .slice none 0 0, .slice none 0 0] 35 (0, 0))) := lhid ((Below.heap_alloc _ _ _ (by simp)).trans HX0.out)
    have y0 := heap_cell (i := 0) HY.out rfl
    have z0 := heap_thaw HY.out 0
    have y1 := heap_cell (i := 1) HY.out rfl
    have z1 := heap_thaw HY.out 1
    have y2 := heap_cell (i := 2) HY.out rfl
    have z2 := heap_thaw HY.out 2
    have y3 := heap_cell (i := 3) HY.out rfl
    have z3 := heap_thaw HY.out 3
    have y4 := heap_cell (i := 4) HY.out rfl
    have z4 := heap_thaw HY.out 4
    have y5 := heap_cell (i := 5) HY.out rfl
    have z5 := heap_thaw HY.out 5
    have y6 := heap_cell (i := 6) HY.out rfl
    have z6 := heap_thaw HY.out 6
    go_enter Try.func25, Try.ntmps25
    go_wp2_with (at_lookup; refine wpList_lookok_mv _ rfl _ _ 58 rfl _ und_cm _ (zero_cl _) cb _ f rfl HM.out s rfl hs (.agg #[.int .i64 y.flags, .string (tx y.name), .string (tx y.super), .slice ya y.ifaces.length da, .slice yp y.pool.length dp, .slice yb y.fields.length db, .slice yd y.methods.length dd]) (by rw [HFU.out]; rfl) true (by rw [HFU.out]; rfl) ?_)
    go_wp2_with fail
    refine bodyPost_ret (v := .tuple #[.agg #[.int .i64 y.flags, .string (tx y.name), .string (tx y.super), .slice ya y.ifaces.length da, .slice yp y.pool.length dp, .slice yb y.fields.length db, .slice yd y.methods.length dd], .bool true]) (by simp [results, Try.results25, go_sem]) rfl ?_
    have hbf : Below w.heap.size w ((w.alloc (.cells #[.int .i64 y.flags, .string (tx y.name), .string (tx y.super), .slice ya y.ifaces.length da, .slice yp y.pool.length dp, .slice yb y.fields.length db, .slice yd y.methods.length dd] 35)).alloc (.cells #[.int .i64 y.flags, .string (tx y.name), .string (tx y.super), .slice ya y.ifaces.length da, .slice yp y.pool.length dp, .slice yb y.fields.length db, .slice yd y.methods.length dd] 35)) := ((Below.refl w.heap.size w).alloc (Nat.le_refl _) _).alloc (by simp) _
    exact ⟨_, true, rfl, .inr ⟨y, _, _, _, _, HF.out, rfl, rfl, R1.out.below (keptX_st _) hbf, R2.out.below (keptX_co _) hbf, R3.out.below (keptX_fl _) hbf, R4.out.below (keptX_me _) hbf⟩, hbf⟩
/-- A class's cells, or zeros, as Class answers them. -/
def ClassV (P : Nat → Prop) (w : World) (L : List ClI) (s : Bs) (cs : List Value) (ok : Bool) : Prop :=
  ∃ c, ClE P w c cs ∧ ((findC L s = none ∧ ok = false ∧ c = zI) ∨ (findC L s = some c ∧ ok = true))
theorem findV_cls {P : Nat → Prop} {w : World} {L : List ClI} {s : Bs} {v : Value} {ok : Bool} (h : FindV P w L s v ok) : ∃ x a p b d, v = .agg #[.int .i64 x.flags, .string (tx x.name), .string (tx x.super), a, p, b, d] ∧ (RdX P 1 StE w a x.ifaces ∧ RdX P 5 CoE w p x.pool ∧ RdX P 3 FlE w b x.fields ∧ RdX P 8 (MeE P) w d x.methods) ∧ ((findC L s = none ∧ ok = false ∧ x = zI) ∨ (findC L s = some x ∧ ok = true)) := by
  rcases h with ⟨h1, rfl, rfl⟩ | ⟨c, a, p, b, d, h1, rfl, rfl, h2⟩
  · exact ⟨zI, _, _, _, _, rfl, ⟨rdX_nil _ _ _ _ _ _ (fun _ => rfl), rdX_nil _ _ _ _ _ _ (fun _ => rfl), rdX_nil _ _ _ _ _ _ (fun _ => rfl), rdX_nil _ _ _ _ _ _ (fun _ => rfl)⟩, .inl ⟨h1, rfl, rfl⟩⟩
  · exact ⟨c, a, p, b, d, rfl, h2, .inr ⟨h1, rfl⟩⟩
end Go.Proofs.Ytkphpihggbbpkaa
