/- gather and gatherKin: who stands above a class. -/
import Derived.Test.YtkphpihggbbpkaaKinReach
import Derived.Deep.RegionHeld3
import Derived.Deep.Cut
namespace Go.Proofs.Ytkphpihggbbpkaa
open Go.RowKit Go Go.Maps
set_option linter.unusedVariables false

/-- What a gathering leaves. -/
def GOut (L : List ClI) (sb : Nat) (S ns : List Bs) (w : World) (e : Ending) (w' : World) : Prop :=
  e = .returned (.tuple #[]) ∧ Ch (· = sb) w w' ∧ ∃ S', SV w' sb S' ∧ Gat L S S' ns ∧ ∀ z ∈ S', z ∈ names L
/-- What a tree of classes is while sets are gathered beside it. -/
structure Wood (Q : Nat → Prop) (L : List ClI) (tb cb ab sb : Nat) (v0 : Value) (w : World) : Prop where
  tr : Tr w tb cb ab v0
  cm : CM Q w cb L
  t : sb ≠ tb
  c : sb ≠ cb
  q : ∀ g, Q g → g ≠ sb
theorem Wood.ch {Q : Nat → Prop} {L : List ClI} {tb cb ab sb : Nat} {v0 : Value} {w w' : World} (h : Wood Q L tb cb ab sb v0 w) (hc : Ch (· = sb) w w') : Wood Q L tb cb ab sb v0 w' :=
  ⟨h.tr.ch hc (Ne.symm h.t), h.cm.ch hc (Ne.symm h.c) (fun g hg => h.q g hg), h.t, h.c, h.q⟩
theorem Wood.below {Q : Nat → Prop} {L : List ClI} {tb cb ab sb : Nat} {v0 : Value} {w w' : World} (h : Wood Q L tb cb ab sb v0 w) (hb : Below w.heap.size w w') : Wood Q L tb cb ab sb v0 w' :=
  ⟨h.tr.below hb, h.cm.below hb, h.t, h.c, h.q⟩
/-- Names that a text can be. -/
def Short (L : List ClI) : Prop := ∀ c ∈ L, c.name.length ≤ maxLen ∧ c.super.length ≤ maxLen ∧ ∀ i ∈ c.ifaces, i.length ≤ maxLen
/-- gather keeps its word where at most n names are not in the set. -/
def GatherAt (L : List ClI) (n : Nat) : Prop := ∀ (Q : Nat → Prop) (tb cb ab sb : Nat) (v0 : Value) (S : List Bs) (s : Bs) (w : World), Hid (Wood Q L tb cb ab sb v0 w) → Hid (SV w sb S) → Hid (∀ z ∈ S, z ∈ names L) → s ∈ names L → (names L).length ≤ S.length + n →
    Calls Try.prog 60 #[.pointer (some ⟨tb, 0, none⟩), .string (tx s), .map (some sb)] w (GOut L sb S [s] w)
theorem gather_use {L : List ClI} {n : Nat} (h : GatherAt L n) (Q : Nat → Prop) (tb cb ab sb : Nat) (v0 : Value) (S : List Bs) (s : Bs) (w : World) (h1 : Hid (Wood Q L tb cb ab sb v0 w)) (h2 : Hid (SV w sb S)) (h3 : Hid (∀ z ∈ S, z ∈ names L)) (h4 : s ∈ names L) (h5 : (names L).length ≤ S.length + n) :
    Calls Try.prog 60 #[.pointer (some ⟨tb, 0, none⟩), .string (tx s), .map (some sb)] w (GOut L sb S [s] w) := h Q tb cb ab sb v0 S s w h1 h2 h3 h4 h5
theorem short_name {L : List ClI} (h : Short L) {s : Bs} (hs : s ∈ names L) : s.length ≤ maxLen := by
  obtain ⟨c, hc, rfl⟩ := List.mem_map.1 hs
  exact (h c hc).1
theorem short_super {L : List ClI} (h : Short L) {c : ClI} (hc : c ∈ L) : c.super.length ≤ maxLen := (h c hc).2.1
set_option maxHeartbeats 16000000 in
set_option maxRecDepth 100000 in
theorem gatherKin_at (L : List ClI) (hC : Closed L) (hSh : Short L) (n : Nat) (hG : GatherAt L n) (Q P : Nat → Prop) (tb cb ab sb : Nat) (v0 : Value) (S : List Bs) (c : ClI) (a p b d : Value) (w : World) (hW : Hid (Wood Q L tb cb ab sb v0 w)) (hS : Hid (SV w sb S)) (hU : Hid (∀ z ∈ S, z ∈ names L)) (hc : c ∈ L) (ha : Hid (RdX P 1 StE w a c.ifaces)) (hP : Hid (∀ g, P g → g ≠ sb)) (hn : (names L).length ≤ S.length + n) :
    Calls Try.prog 40 #[.pointer (some ⟨tb, 0, none⟩), .agg #[.int .i64 c.flags, .string (tx c.name), .string (tx c.super), a, p, b, d], .map (some sb)] w (GOut L sb S (kinOf L c) w) := by
  have hsu := short_super hSh hc
  have hsb := hS.out.lt
  obtain ⟨xa, ca, rfl⟩ := ha.out.shape
  have hlen := ha.out.len
  have hB := (Below.refl w.heap.size w).alloc (Nat.le_refl _) (.cells #[.int .i64 c.flags, .string (tx c.name), .string (tx c.super), .slice xa c.ifaces.length ca, p, b, d] 35)
  have HB := lhid hB
  have HX0 := lhid (heap_alloc_new w (.cells #[.int .i64 c.flags, .string (tx c.name), .string (tx c.super), .slice xa c.ifaces.length ca, p, b, d] 35))
  have HW1 := lhid (hW.out.below hB)
  have HS1 := lhid (hS.out.below hB)
  have HK := lhid (kinOf_in hC hc)
  clear hB
  go_enter Try.func40, Try.ntmps40
  go_upto_region 1 with fail
  generalize w.alloc (.cells #[.int .i64 c.flags, .string (tx c.name), .string (tx c.super), .slice xa c.ifaces.length ca, p, b, d] 35) = w1 at *
  have hw1 := HB.out.size
  have hx0 := heap_lt HX0.out
  have t1 : w1.cell? ⟨tb, 1, none⟩ = some (.map (some cb)) := heap_cell (i := 1) HW1.out.tr rfl
  have x2 : w1.cell? ⟨w.heap.size, 2, none⟩ = some (.string (tx c.super)) := heap_cell (i := 2) HX0.out rfl
  obtain ⟨f, hm, hfs⟩ := HW1.out.cm
  have HM := lhid hm
  have hS0 : ∀ w' : World, Below w1.heap.size w1 w' → (w'.cell? ⟨tb, 1, none⟩ = some (.map (some cb)) ∧ w'.cell? ⟨w.heap.size, 2, none⟩ = some (.string (tx c.super)) ∧ MV w' cb L.length f) := fun w' hb => ⟨(hb.cell (p := ⟨tb, 1, none⟩) (cell_lt t1)).trans t1, (hb.cell (p := ⟨w.heap.size, 2, none⟩) (cell_lt x2)).trans x2, HM.out.below hb⟩
  have HSS := lhid hS0
  clear hm hS0 t1 x2
  cases hf : findC L c.super with
  | none =>
    have hfu := (hfs c.super).1 hf
    have HKO : Hid (kinOf L c = c.ifaces) := lhid (by unfold kinOf; rw [hf]; rfl)
    have hlk : ∀ w' : World, Below w1.heap.size w1 w' → (w'.cell? ⟨tb, 1, none⟩ = some (.map (some cb)) ∧ w'.cell? ⟨w.heap.size, 2, none⟩ = some (.string (tx c.super)) ∧ (Instr.lookup 58 (.map (some cb)) (.string (tx c.super)) true).run Try.prog w' = .ok (.tuple #[.agg #[.int .i64 0, .string ⟨#[]⟩, .string ⟨#[]⟩, .slice none 0 0, .slice none 0 0, .slice none 0 0, .slice none 0 0], .bool false]) w') := fun w' hw' => ⟨(HSS.out w' hw').1, (HSS.out w' hw').2.1, by
      have := ((HSS.out w' hw').2.2.look und_cm (zero_cl w') hsu).2
      rw [hfu] at this
      exact this⟩
    have HLK := lhid hlk
    clear hf hfu hfs hlk
    go_region_held3 (fun w' => w'.cell? ⟨tb, 1, none⟩ = some (.map (some cb)) ∧ w'.cell? ⟨w.heap.size, 2, none⟩ = some (.string (tx c.super)) ∧ (Instr.lookup 58 (.map (some cb)) (.string (tx c.super)) true).run Try.prog w' = .ok (.tuple #[.agg #[.int .i64 0, .string ⟨#[]⟩, .string ⟨#[]⟩, .slice none 0 0, .slice none 0 0, .slice none 0 0, .slice none 0 0], .bool false]) w') (first | exact HLK.out _ (Below.drew (Below.refl _ _)) | exact HLK.out _ ((Below.drew (Below.refl _ _)).alloc (Nat.le_refl _) _) | exact HLK.out _ ((Below.refl _ _).alloc (Nat.le_refl _) _)) (fail)
    all_goals go_upto_region 4 with fail
    all_goals
      have hBL : Below w1.heap.size w1 (w1.alloc (.cells #[.int .i64 0, .string ⟨#[]⟩, .string ⟨#[]⟩, .slice none 0 0, .slice none 0 0, .slice none 0 0, .slice none 0 0] 35)).drew := Below.drew ((Below.refl _ _).alloc (Nat.le_refl _) _)
      have HSL := lhid (HS1.out.below hBL)
      have HGL := lhid (Gat.refl L S)
      have HUL := hU
      have HCL : Hid (Ch (· = sb) w (w1.alloc (.cells #[.int .i64 0, .string ⟨#[]⟩, .string ⟨#[]⟩, .slice none 0 0, .slice none 0 0, .slice none 0 0, .slice none 0 0] 35)).drew) := lhid (((Ch.refl _ w).below HB.out).below hBL)
      have y3 := heap_cell (i := 3) ((hBL.block _ hx0).trans HX0.out) rfl
      clear hBL
    all_goals go_wp2_with fail
    all_goals go_loopw [29] (fun i wr => ∃ (kk : Nat) (S' : List Bs), i = .int .i64 kk ∧ kk ≤ c.ifaces.length ∧ Hid (SV wr sb S') ∧ Hid (Gat L S S' ([] ++ c.ifaces.take kk)) ∧ Hid (∀ z ∈ S', z ∈ names L) ∧ Hid (Ch (· = sb) w wr)) (fun i _ => c.ifaces.length - (intOf i).toNat)
    all_goals first
      | exact ⟨0, S, rfl, Nat.zero_le _, HSL, lhid (by simpa using HGL.out), HUL, HCL⟩
      | skip
    all_goals
      obtain ⟨kk, S', rfl, hkk, HS', HG', HU', HCh⟩ := hrel
      by_cases hlt : kk < c.ifaces.length
      · obtain ⟨x, hx⟩ : ∃ x, c.ifaces[kk]? = some x := ⟨_, List.getElem?_eq_getElem hlt⟩
        have HTN := lhid (take_nextS hx)
        have hxm := List.mem_of_getElem? hx
        have hxn := hC.1 c hc x hxm
        obtain ⟨ga, oa, cc, rfl, _, hE, hcl⟩ := (ha.out.ch (keptX_st P) HCh.out (fun g hg => hP.out g hg)).at' hx
        have c0 : wr.cell? ⟨ga, oa + kk, none⟩ = some (.string (tx x)) := by
          have := hcl 0 (.string (tx x)) (by rw [show cc = [.string (tx x)] from hE]; rfl)
          rwa [Nat.mul_one] at this
        have k3 : (kk : Int) < c.ifaces.length := by omega
        have hle := nodup_len S S' hS.out.1 HG'.out.old
        have hn' : (names L).length ≤ S'.length + n := by omega
        have HWr := lhid (hW.out.ch HCh.out)
        clear hx hE hcl hle hxm
        go_wp2_with fail
        with_reducible refine (gather_use hG Q tb cb ab sb v0 S' x _ HWr HS' HU' hxn hn').mono ?_
        rintro e w5 ⟨rfl, hch5, S5, hs5, hg5, hu5⟩
        have HS5 := lhid hs5
        have HG5 := lhid (HG'.out.trans hg5)
        have HU5 := lhid hu5
        have HC5 : Hid (Ch (· = sb) w w5) := lhid (HCh.out.trans hch5 (fun _ _ h => h))
        clear hch5 hs5 hg5 hu5 c0 hn' hxn
        go_wp2_with fail
        go_roundw
        case rel => exact ⟨kk + 1, S5, by go_num, by omega, HS5, lhid (by rw [HTN.out, ← List.append_assoc]; exact HG5.out), HU5, HC5⟩
        case measure => simp [intOf]; omega
      · have k3 : ¬ (kk : Int) < c.ifaces.length := by omega
        have e : kk = c.ifaces.length := by omega
        subst e
        rw [List.take_length] at HG'
        go_wp2_with fail
        go_end0
        exact ⟨rfl, HCh.out, S', HS'.out, by rw [HKO.out]; exact HG'.out, HU'.out⟩
  | some y =>
    obtain ⟨u, hfu, cy, rfl, a', p', b', d', rfl, r1, r2, r3, r4⟩ := (hfs c.super).2 y hf
    obtain ⟨ya, da, rfl⟩ := r1.shape
    obtain ⟨yp, dp, rfl⟩ := r2.shape
    obtain ⟨yb, db, rfl⟩ := r3.shape
    obtain ⟨yd, dd, rfl⟩ := r4.shape
    have HKO : Hid (kinOf L c = [c.super] ++ c.ifaces) := lhid (by unfold kinOf; rw [hf]; rfl)
    have hsn := find_names hf
    have hlk : ∀ w' : World, Below w1.heap.size w1 w' → (w'.cell? ⟨tb, 1, none⟩ = some (.map (some cb)) ∧ w'.cell? ⟨w.heap.size, 2, none⟩ = some (.string (tx c.super)) ∧ (Instr.lookup 58 (.map (some cb)) (.string (tx c.super)) true).run Try.prog w' = .ok (.tuple #[.agg #[.int .i64 y.flags, .string (tx y.name), .string (tx y.super), .slice ya y.ifaces.length da, .slice yp y.pool.length dp, .slice yb y.fields.length db, .slice yd y.methods.length dd], .bool true]) w') := fun w' hw' => ⟨(HSS.out w' hw').1, (HSS.out w' hw').2.1, by
      have := ((HSS.out w' hw').2.2.look und_cm (zero_cl w') hsu).2
      rw [hfu] at this
      exact this⟩
    have HLK := lhid hlk
    clear hf hfu hfs hlk r1 r2 r3 r4
    go_region_held3 (fun w' => w'.cell? ⟨tb, 1, none⟩ = some (.map (some cb)) ∧ w'.cell? ⟨w.heap.size, 2, none⟩ = some (.string (tx c.super)) ∧ (Instr.lookup 58 (.map (some cb)) (.string (tx c.super)) true).run Try.prog w' = .ok (.tuple #[.agg #[.int .i64 y.flags, .string (tx y.name), .string (tx y.super), .slice ya y.ifaces.length da, .slice yp y.pool.length dp, .slice yb y.fields.length db, .slice yd y.methods.length dd], .bool true]) w') (first | exact HLK.out _ (Below.drew (Below.refl _ _)) | exact HLK.out _ ((Below.drew (Below.refl _ _)).alloc (Nat.le_refl _) _) | exact HLK.out _ ((Below.refl _ _).alloc (Nat.le_refl _) _)) (fail)
    all_goals
      have hBL : Below w1.heap.size w1 (w1.alloc (.cells #[.int .i64 y.flags, .string (tx y.name), .string (tx y.super), .slice ya y.ifaces.length da, .slice yp y.pool.length dp, .slice yb y.fields.length db, .slice yd y.methods.length dd] 35)).drew := Below.drew ((Below.refl _ _).alloc (Nat.le_refl _) _)
      have HSa := lhid (HS1.out.below hBL)
      have HWa := lhid (HW1.out.below hBL)
      have HCa : Hid (Ch (· = sb) w (w1.alloc (.cells #[.int .i64 y.flags, .string (tx y.name), .string (tx y.super), .slice ya y.ifaces.length da, .slice yp y.pool.length dp, .slice yb y.fields.length db, .slice yd y.methods.length dd] 35)).drew) := lhid (((Ch.refl _ w).below HB.out).below hBL)
      have HXa := lhid ((hBL.block _ hx0).trans HX0.out)
      have y2 := heap_cell (i := 2) HXa.out rfl
      clear hBL
    all_goals go_wp2_with fail
    all_goals
      refine (gather_use hG Q tb cb ab sb v0 S c.super _ HWa HSa hU hsn hn).mono ?_
      rintro e w3 ⟨rfl, hch3, S1, hs1, hg1, hu1⟩
      have HSL := lhid hs1
      have HGL := lhid hg1
      have HUL := lhid hu1
      have HCL : Hid (Ch (· = sb) w w3) := lhid (HCa.out.trans hch3 (fun _ _ h => h))
      have y3 := heap_cell (i := 3) (hch3.keep HXa.out (by omega)) rfl
      clear hs1 hg1 hu1 hch3 y2
    all_goals go_wp2_with fail
    all_goals go_loopw [29] (fun i wr => ∃ (kk : Nat) (S' : List Bs), i = .int .i64 kk ∧ kk ≤ c.ifaces.length ∧ Hid (SV wr sb S') ∧ Hid (Gat L S S' ([c.super] ++ c.ifaces.take kk)) ∧ Hid (∀ z ∈ S', z ∈ names L) ∧ Hid (Ch (· = sb) w wr)) (fun i _ => c.ifaces.length - (intOf i).toNat)
    all_goals first
      | exact ⟨0, S1, rfl, Nat.zero_le _, HSL, lhid (by simpa using HGL.out), HUL, HCL⟩
      | skip
    all_goals
      obtain ⟨kk, S', rfl, hkk, HS', HG', HU', HCh⟩ := hrel
      by_cases hlt : kk < c.ifaces.length
      · obtain ⟨x, hx⟩ : ∃ x, c.ifaces[kk]? = some x := ⟨_, List.getElem?_eq_getElem hlt⟩
        have HTN := lhid (take_nextS hx)
        have hxm := List.mem_of_getElem? hx
        have hxn := hC.1 c hc x hxm
        obtain ⟨ga, oa, cc, rfl, _, hE, hcl⟩ := (ha.out.ch (keptX_st P) HCh.out (fun g hg => hP.out g hg)).at' hx
        have c0 : wr.cell? ⟨ga, oa + kk, none⟩ = some (.string (tx x)) := by
          have := hcl 0 (.string (tx x)) (by rw [show cc = [.string (tx x)] from hE]; rfl)
          rwa [Nat.mul_one] at this
        have k3 : (kk : Int) < c.ifaces.length := by omega
        have hle := nodup_len S S' hS.out.1 HG'.out.old
        have hn' : (names L).length ≤ S'.length + n := by omega
        have HWr := lhid (hW.out.ch HCh.out)
        clear hx hE hcl hle hxm
        go_wp2_with fail
        with_reducible refine (gather_use hG Q tb cb ab sb v0 S' x _ HWr HS' HU' hxn hn').mono ?_
        rintro e w5 ⟨rfl, hch5, S5, hs5, hg5, hu5⟩
        have HS5 := lhid hs5
        have HG5 := lhid (HG'.out.trans hg5)
        have HU5 := lhid hu5
        have HC5 : Hid (Ch (· = sb) w w5) := lhid (HCh.out.trans hch5 (fun _ _ h => h))
        clear hch5 hs5 hg5 hu5 c0 hn' hxn
        go_wp2_with fail
        go_roundw
        case rel => exact ⟨kk + 1, S5, by go_num, by omega, HS5, lhid (by rw [HTN.out, ← List.append_assoc]; exact HG5.out), HU5, HC5⟩
        case measure => simp [intOf]; omega
      · have k3 : ¬ (kk : Int) < c.ifaces.length := by omega
        have e : kk = c.ifaces.length := by omega
        subst e
        rw [List.take_length] at HG'
        go_wp2_with fail
        go_end0
        exact ⟨rfl, HCh.out, S', HS'.out, by rw [HKO.out]; exact HG'.out, HU'.out⟩
set_option maxHeartbeats 16000000 in
set_option maxRecDepth 100000 in
theorem gather_at (L : List ClI) (hC : Closed L) (hSh : Short L) (hL : L.length ≤ 100) : ∀ n, GatherAt L n := by
  intro n
  induction n with
  | zero =>
    intro Q tb cb ab sb v0 S s w hW hS hU hs hn
    have hsl := short_name hSh hs
    have hmem : s ∈ S := by
      refine Classical.byContradiction fun hm => ?_
      have := nodup_len (s :: S) (names L) (List.nodup_cons.2 ⟨hm, hS.out.1⟩) (fun x hx => by rcases List.mem_cons.1 hx with h | h; rw [h]; exact hs; exact hU.out x h)
      simp only [List.length_cons] at this
      omega
    have HM := lhid hmem
    go_enter Try.func60, Try.ntmps60
    go_wp2_with fail
    with_reducible refine (has_any sb S s _ hS hsl).mono ?_
    rintro e w1 ⟨rfl, hb1⟩
    have HB1 := lhid hb1
    have HS1 := lhid (hS.out.below hb1)
    rw [decide_eq_true hmem]
    clear hb1 hmem
    go_wp2_with fail
    go_end0
    exact ⟨rfl, Ch.of HB1.out, S, HS1.out, Gat.one L HM.out, hU.out⟩
  | succ n ih =>
    intro Q tb cb ab sb v0 S s w hW hS hU hs hn
    have hsl := short_name hSh hs
    go_enter Try.func60, Try.ntmps60
    go_wp2_with fail
    with_reducible refine (has_any sb S s _ hS hsl).mono ?_
    rintro e w1 ⟨rfl, hb1⟩
    have HB1 := lhid hb1
    have HS1 := lhid (hS.out.below hb1)
    have HW1 := lhid (hW.out.below hb1)
    clear hb1
    by_cases hmem : s ∈ S
    · have HM := lhid hmem
      rw [decide_eq_true hmem]
      clear hmem
      go_wp2_with fail
      go_end0
      exact ⟨rfl, Ch.of HB1.out, S, HS1.out, Gat.one L HM.out, hU.out⟩
    · have HM := lhid hmem
      rw [decide_eq_false hmem]
      have hSl : S.length ≤ 100 := by
        have h1 := nodup_len S (names L) hS.out.1 hU.out
        have h2 : (names L).length = L.length := by unfold names; rw [List.length_map]
        omega
      clear hmem
      go_wp2_with fail
      with_reducible refine (add_any sb S s _ HS1 hsl HM (by unfold maxLen; omega)).mono ?_
      rintro e w2 ⟨rfl, hs2, hch2⟩
      have HS2 := lhid hs2
      have HW2 := lhid (HW1.out.ch hch2)
      have HC2 : Hid (Ch (· = sb) w w2) := lhid ((Ch.of HB1.out).trans hch2 (fun _ _ h => h))
      have HU2 : Hid (∀ z ∈ s :: S, z ∈ names L) := lhid (fun x hx => by rcases List.mem_cons.1 hx with h | h; rw [h]; exact hs; exact hU.out x h)
      clear hs2 hch2
      obtain ⟨y, hf⟩ := names_find hs
      have HF := lhid hf
      have hyL := (findC_some hf).1
      obtain ⟨f, hm, hfs⟩ := HW2.out.cm
      obtain ⟨u, hfu, cy, rfl, a', p', b', d', rfl, r1, _⟩ := (hfs s).2 y hf
      have hlk : (Instr.lookup 58 (.map (some cb)) (.string (tx s)) false).run Try.prog w2 = .ok (.agg #[.int .i64 y.flags, .string (tx y.name), .string (tx y.super), a', p', b', d']) w2 := by
        have := (hm.look und_cm (zero_cl w2) hsl).1
        rw [hfu] at this
        exact this
      have t1 : w2.cell? ⟨tb, 1, none⟩ = some (.map (some cb)) := heap_cell (i := 1) HW2.out.tr rfl
      have R1 := lhid r1
      have hn2 : (names L).length ≤ (s :: S).length + n := by simp only [List.length_cons]; omega
      clear hf hm hfs hfu r1
      go_wp2_with fail
      refine (gatherKin_at L hC hSh n ih Q Q tb cb ab sb v0 (s :: S) y a' p' b' d' w2 HW2 HS2 HU2 hyL R1 (lhid HW2.out.q) hn2).mono ?_
      rintro e w3 ⟨rfl, hch3, S3, hs3, hg3, hu3⟩
      have HS3 := lhid hs3
      have HG3 := lhid (Gat.into HF.out hg3)
      have HU3 := lhid hu3
      have HC3 : Hid (Ch (· = sb) w w3) := lhid (HC2.out.trans hch3 (fun _ _ h => h))
      clear hs3 hg3 hu3 hch3 t1 hlk
      go_wp2_with fail
      go_end0
      exact ⟨rfl, HC3.out, S3, HS3.out, HG3.out, HU3.out⟩
end Go.Proofs.Ytkphpihggbbpkaa
