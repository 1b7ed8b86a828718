/- Texts of this claim, joined: KinGather, KinClimb. -/
import Derived.Test.YtpdnonlelocfbaaGreatDoorM12
import Derived.Deep.RegionHeld3
import Derived.Deep.Cut
/- gather and gatherKin: who stands above a class. -/
namespace Go.Proofs.YtpdnonlelocfbaaGreatDoor
open Go.RowKit Go Go.Maps
set_option linter.unusedVariables false

/-- What a gathering leaves. -/
def GOut (L : List ClI) (sb : Nat) (S ns : List Bs) (w : World) (e : Ending) (w' : World) : Prop :=
  e = .returned (.tuple #[]) ∧ Ch (· = sb) w w' ∧ ∃ S', SV w' sb S' ∧ Gat L S S' ns ∧ ∀ z ∈ S', z ∈ names L
/-- What a tree of classes is while sets are gathered beside it. -/
structure Wood (Q : Nat → Prop) (L : List ClI) (tb cb ab sb : Nat) (v0 : Value) (w : World) : Prop where
  tr : Tr w tb cb ab v0
  cm : CM Q w cb L
  t : sb ≠ tb
  c : sb ≠ cb
  q : ∀ g, Q g → g ≠ sb
theorem Wood.ch {Q : Nat → Prop} {L : List ClI} {tb cb ab sb : Nat} {v0 : Value} {w w' : World} (h : Wood Q L tb cb ab sb v0 w) (hc : Ch (· = sb) w w') : Wood Q L tb cb ab sb v0 w' :=
  ⟨h.tr.ch hc (Ne.symm h.t), h.cm.ch hc (Ne.symm h.c) (fun g hg => h.q g hg), h.t, h.c, h.q⟩
theorem Wood.below {Q : Nat → Prop} {L : List ClI} {tb cb ab sb : Nat} {v0 : Value} {w w' : World} (h : Wood Q L tb cb ab sb v0 w) (hb : Below w.heap.size w w') : Wood Q L tb cb ab sb v0 w' :=
  ⟨h.tr.below hb, h.cm.below hb, h.t, h.c, h.q⟩
/-- Names that a text can be. -/
def Short (L : List ClI) : Prop := ∀ c ∈ L, c.name.length ≤ maxLen ∧ c.super.length ≤ maxLen ∧ ∀ i ∈ c.ifaces, i.length ≤ maxLen
/-- gather keeps its word where at most n names are not in the set. -/
def GatherAt (L : List ClI) (n : Nat) : Prop := ∀ (Q : Nat → Prop) (tb cb ab sb : Nat) (v0 : Value) (S : List Bs) (s : Bs) (w : World), Hid (Wood Q L tb cb ab sb v0 w) → Hid (SV w sb S) → Hid (∀ z ∈ S, z ∈ names L) → s ∈ names L → (names L).length ≤ S.length + n →
    Calls Tryz.prog 148 #[.pointer (some ⟨tb, 0, none⟩), .string (tx s), .map (some sb)] w (GOut L sb S [s] w)
theorem gather_use {L : List ClI} {n : Nat} (h : GatherAt L n) (Q : Nat → Prop) (tb cb ab sb : Nat) (v0 : Value) (S : List Bs) (s : Bs) (w : World) (h1 : Hid (Wood Q L tb cb ab sb v0 w)) (h2 : Hid (SV w sb S)) (h3 : Hid (∀ z ∈ S, z ∈ names L)) (h4 : s ∈ names L) (h5 : (names L).length ≤ S.length + n) :
    Calls Tryz.prog 148 #[.pointer (some ⟨tb, 0, none⟩), .string (tx s), .map (some sb)] w (GOut L sb S [s] w) := h Q tb cb ab sb v0 S s w h1 h2 h3 h4 h5
theorem short_name {L : List ClI} (h : Short L) {s : Bs} (hs : s ∈ names L) : s.length ≤ maxLen := by
  obtain ⟨c, hc, rfl⟩ := List.mem_map.1 hs
  exact (h c hc).1
theorem short_super {L : List ClI} (h : Short L) {c : ClI} (hc : c ∈ L) : c.super.length ≤ maxLen := (h c hc).2.1
set_option maxHeartbeats 16000000 in
set_option maxRecDepth 100000 in
theorem gatherKin_at (L : List ClI) (hC : Closed L) (hSh : Short L) (n : Nat) (hG : GatherAt L n) (Q P : Nat → Prop) (tb cb ab sb : Nat) (v0 : Value) (S : List Bs) (c : ClI) (a p b d : Value) (w : World) (hW : Hid (Wood Q L tb cb ab sb v0 w)) (hS : Hid (SV w sb S)) (hU : Hid (∀ z ∈ S, z ∈ names L)) (hc : c ∈ L) (ha : Hid (RdX P 1 StE w a c.ifaces)) (hP : Hid (∀ g, P g → g ≠ sb)) (hn : (names L).length ≤ S.length + n) :
    Calls Tryz.prog 90 #[.pointer (some ⟨tb, 0, none⟩), .agg #[.int .i64 c.flags, .string (tx c.name), .string (tx c.super), a, p, b, d], .map (some sb)] w (GOut L sb S (kinOf L c) w) := by
  have hsu := short_super hSh hc
  have hsb := hS.out.lt
  obtain ⟨xa, ca, rfl⟩ := ha.out.shape
  have hlen := ha.out.len
  have hB := (Below.refl w.heap.size w).alloc (Nat.le_refl _) (.cells #[.int .i64 c.flags, .string (tx c.name), .string (tx c.super), .slice xa c.ifaces.length ca, p, b, d] 39)
  have HB := lhid hB
  have HX0 := lhid (heap_alloc_new w (.cells #[.int .i64 c.flags, .string (tx c.name), .string (tx c.super), .slice xa c.ifaces.length ca, p, b, d] 39))
  have HW1 := lhid (hW.out.below hB)
  have HS1 := lhid (hS.out.below hB)
  have HK := lhid (kinOf_in hC hc)
  clear hB
  go_enter Tryz.func90, Tryz.ntmps90
  go_upto_region 1 with fail
  generalize w.alloc (.cells #[.int .i64 c.flags, .string (tx c.name), .string (tx c.super), .slice xa c.ifaces.length ca, p, b, d] 39) = w1 at *
  have hw1 := HB.out.size
  have hx0 := heap_lt HX0.out
  have t1 : w1.cell? ⟨tb, 1, none⟩ = some (.map (some cb)) := heap_cell (i := 1) HW1.out.tr rfl
  have x2 : w1.cell? ⟨w.heap.size, 2, none⟩ = some (.string (tx c.super)) := heap_cell (i := 2) HX0.out rfl
  obtain ⟨f, hm, hfs⟩ := HW1.out.cm
  have HM := lhid hm
  have hS0 : ∀ w' : World, Below w1.heap.size w1 w' → (w'.cell? ⟨tb, 1, none⟩ = some (.map (some cb)) ∧ w'.cell? ⟨w.heap.size, 2, none⟩ = some (.string (tx c.super)) ∧ MV w' cb L.length f) := fun w' hb => ⟨(hb.cell (p := ⟨tb, 1, none⟩) (cell_lt t1)).trans t1, (hb.cell (p := ⟨w.heap.size, 2, none⟩) (cell_lt x2)).trans x2, HM.out.below hb⟩
  have HSS := lhid hS0
  clear hm hS0 t1 x2
  cases hf : findC L c.super with
  | none =>
    have hfu := (hfs c.super).1 hf
    have HKO : Hid (kinOf L c = c.ifaces) := lhid (by unfold kinOf; rw [hf]; rfl)
    have hlk : ∀ w' : World, Below w1.heap.size w1 w' → (w'.cell? ⟨tb, 1, none⟩ = some (.map (some cb)) ∧ w'.cell? ⟨w.heap.size, 2, none⟩ = some (.string (tx c.super)) ∧ (Instr.lookup 97 (.map (some cb)) (.string (tx c.super)) true).run Tryz.prog w' = .ok (.tuple #[.agg #[.int .i64 0, .string ⟨#[]⟩, .string ⟨#[]⟩, .slice none 0 0, .slice none 0 0, .slice none 0 0, .slice none 0 0], .bool false]) w') := fun w' hw' => ⟨(HSS.out w' hw').1, (HSS.out w' hw').2.1, by
      have := ((HSS.out w' hw').2.2.look und_cm (zero_cl w') hsu).2
      rw [hfu] at this
      exact this⟩
    have HLK := lhid hlk
    clear hf hfu hfs hlk
    go_region_held3 (fun w' => w'.cell? ⟨tb, 1, none⟩ = some (.map (some cb)) ∧ w'.cell? ⟨w.heap.size, 2, none⟩ = some (.string (tx c.super)) ∧ (Instr.lookup 97 (.map (some cb)) (.string (tx c.super)) true).run Tryz.prog w' = .ok (.tuple #[.agg #[.int .i64 0, .string ⟨#[]⟩, .string ⟨#[]⟩, .slice none 0 0, .slice none 0 0, .slice none 0 0, .slice none 0 0], .bool false]) w') (first | exact HLK.out _ (Below.drew (Below.refl _ _)) | exact HLK.out _ ((Below.drew (Below.refl _ _)).alloc (Nat.le_refl _) _) | exact HLK.out _ ((Below.refl _ _).alloc (Nat.le_refl _) _)) (fail)
    all_goals go_upto_region 4 with fail
    all_goals
      have hBL : Below w1.heap.size w1 (w1.alloc (.cells #[.int .i64 0, .string ⟨#[]⟩, .string ⟨#[]⟩, .slice none 0 0, .slice none 0 0, .slice none 0 0, .slice none 0 0] 39)).drew := Below.drew ((Below.refl _ _).alloc (Nat.le_refl _) _)
      have HSL := lhid (HS1.out.below hBL)
      have HGL := lhid (Gat.refl L S)
      have HUL := hU
      have HCL : Hid (Ch (· = sb) w (w1.alloc (.cells #[.int .i64 0, .string ⟨#[]⟩, .string ⟨#[]⟩, .slice none 0 0, .slice none 0 0, .slice none 0 0, .slice none 0 0] 39)).drew) := lhid (((Ch.refl _ w).below HB.out).below hBL)
      have y3 := heap_cell (i := 3) ((hBL.block _ hx0).trans HX0.out) rfl
      clear hBL
    all_goals go_wp2_with fail
    all_goals go_loopw [29] (fun i wr => ∃ (kk : Nat) (S' : List Bs), i = .int .i64 kk ∧ kk ≤ c.ifaces.length ∧ Hid (SV wr sb S') ∧ Hid (Gat L S S' ([] ++ c.ifaces.take kk)) ∧ Hid (∀ z ∈ S', z ∈ names L) ∧ Hid (Ch (· = sb) w wr)) (fun i _ => c.ifaces.length - (intOf i).toNat)
    all_goals first
      | exact ⟨0, S, rfl, Nat.zero_le _, HSL, lhid (by simpa using HGL.out), HUL, HCL⟩
      | skip
    all_goals
      obtain ⟨kk, S', rfl, hkk, HS', HG', HU', HCh⟩ := hrel
      by_cases hlt : kk < c.ifaces.length
      · obtain ⟨x, hx⟩ : ∃ x, c.ifaces[kk]? = some x := ⟨_, List.getElem?_eq_getElem hlt⟩
        have HTN := lhid (take_nextS hx)
        have hxm := List.mem_of_getElem? hx
        have hxn := hC.1 c hc x hxm
        obtain ⟨ga, oa, cc, rfl, _, hE, hcl⟩ := (ha.out.ch (keptX_st P) HCh.out (fun g hg => hP.out g hg)).at' hx
        have c0 : wr.cell? ⟨ga, oa + kk, none⟩ = some (.string (tx x)) := by
          have := hcl 0 (.string (tx x)) (by rw [show cc = [.string (tx x)] from hE]; rfl)
          rwa [Nat.mul_one] at this
        have k3 : (kk : Int) < c.ifaces.length := by omega
        have hle := nodup_len S S' hS.out.1 HG'.out.old
        have hn' : (names L).length ≤ S'.length + n := by omega
        have HWr := lhid (hW.out.ch HCh.out)
        clear hx hE hcl hle hxm
        go_wp2_with fail
        with_reducible refine (gather_use hG Q tb cb ab sb v0 S' x _ HWr HS' HU' hxn hn').mono ?_
        rintro e w5 ⟨rfl, hch5, S5, hs5, hg5, hu5⟩
        have HS5 := lhid hs5
        have HG5 := lhid (HG'.out.trans hg5)
        have HU5 := lhid hu5
        have HC5 : Hid (Ch (· = sb) w w5) := lhid (HCh.out.trans hch5 (fun _ _ h => h))
        clear hch5 hs5 hg5 hu5 c0 hn' hxn
        go_wp2_with fail
        go_roundw
        case rel => exact ⟨kk + 1, S5, by go_num, by omega, HS5, lhid (by rw [HTN.out, ← List.append_assoc]; exact HG5.out), HU5, HC5⟩
        case measure => simp [intOf]; omega
      · have k3 : ¬ (kk : Int) < c.ifaces.length := by omega
        have e : kk = c.ifaces.length := by omega
        subst e
        rw [List.take_length] at HG'
        go_wp2_with fail
        go_end0
        exact ⟨rfl, HCh.out, S', HS'.out, by rw [HKO.out]; exact HG'.out, HU'.out⟩
  | some y =>
    obtain ⟨u, hfu, cy, rfl, a', p', b', d', rfl, r1, r2, r3, r4⟩ := (hfs c.super).2 y hf
    obtain ⟨ya, da, rfl⟩ := r1.shape
    obtain ⟨yp, dp, rfl⟩ := r2.shape
    obtain ⟨yb, db, rfl⟩ := r3.shape
    obtain ⟨yd, dd, rfl⟩ := r4.shape
    have HKO : Hid (kinOf L c = [c.super] ++ c.ifaces) := lhid (by unfold kinOf; rw [hf]; rfl)
    have hsn := find_names hf
    have hlk : ∀ w' : World, Below w1.heap.size w1 w' → (w'.cell? ⟨tb, 1, none⟩ = some (.map (some cb)) ∧ w'.cell? ⟨w.heap.size, 2, none⟩ = some (.string (tx c.super)) ∧ (Instr.lookup 97 (.map (some cb)) (.string (tx c.super)) true).run Tryz.prog w' = .ok (.tuple #[.agg #[.int .i64 y.flags, .string (tx y.name), .string (tx y.super), .slice ya y.ifaces.length da, .slice yp y.pool.length dp, .slice yb y.fields.length db, .slice yd y.methods.length dd], .bool true]) w') := fun w' hw' => ⟨(HSS.out w' hw').1, (HSS.out w' hw').2.1, by
      have := ((HSS.out w' hw').2.2.look und_cm (zero_cl w') hsu).2
      rw [hfu] at this
      exact this⟩
    have HLK := lhid hlk
    clear hf hfu hfs hlk r1 r2 r3 r4
    go_region_held3 (fun w' => w'.cell? ⟨tb, 1, none⟩ = some (.map (some cb)) ∧ w'.cell? ⟨w.heap.size, 2, none⟩ = some (.string (tx c.super)) ∧ (Instr.lookup 97 (.map (some cb)) (.string (tx c.super)) true).run Tryz.prog w' = .ok (.tuple #[.agg #[.int .i64 y.flags, .string (tx y.name), .string (tx y.super), .slice ya y.ifaces.length da, .slice yp y.pool.length dp, .slice yb y.fields.length db, .slice yd y.methods.length dd], .bool true]) w') (first | exact HLK.out _ (Below.drew (Below.refl _ _)) | exact HLK.out _ ((Below.drew (Below.refl _ _)).alloc (Nat.le_refl _) _) | exact HLK.out _ ((Below.refl _ _).alloc (Nat.le_refl _) _)) (fail)
    all_goals
      have hBL : Below w1.heap.size w1 (w1.alloc (.cells #[.int .i64 y.flags, .string (tx y.name), .string (tx y.super), .slice ya y.ifaces.length da, .slice yp y.pool.length dp, .slice yb y.fields.length db, .slice yd y.methods.length dd] 39)).drew := Below.drew ((Below.refl _ _).alloc (Nat.le_refl _) _)
      have HSa := lhid (HS1.out.below hBL)
      have HWa := lhid (HW1.out.below hBL)
      have HCa : Hid (Ch (· = sb) w (w1.alloc (.cells #[.int .i64 y.flags, .string (tx y.name), .string (tx y.super), .slice ya y.ifaces.length da, .slice yp y.pool.length dp, .slice yb y.fields.length db, .slice yd y.methods.length dd] 39)).drew) := lhid (((Ch.refl _ w).below HB.out).below hBL)
      have HXa := lhid ((hBL.block _ hx0).trans HX0.out)
      have y2 := heap_cell (i := 2) HXa.out rfl
      clear hBL
    all_goals go_wp2_with fail
    all_goals
      refine (gather_use hG Q tb cb ab sb v0 S c.super _ HWa HSa hU hsn hn).mono ?_
      rintro e w3 ⟨rfl, hch3, S1, hs1, hg1, hu1⟩
      have HSL := lhid hs1
      have HGL := lhid hg1
      have HUL := lhid hu1
      have HCL : Hid (Ch (· = sb) w w3) := lhid (HCa.out.trans hch3 (fun _ _ h => h))
      have y3 := heap_cell (i := 3) (hch3.keep HXa.out (by omega)) rfl
      clear hs1 hg1 hu1 hch3 y2
    all_goals go_wp2_with fail
    all_goals go_loopw [29] (fun i wr => ∃ (kk : Nat) (S' : List Bs), i = .int .i64 kk ∧ kk ≤ c.ifaces.length ∧ Hid (SV wr sb S') ∧ Hid (Gat L S S' ([c.super] ++ c.ifaces.take kk)) ∧ Hid (∀ z ∈ S', z ∈ names L) ∧ Hid (Ch (· = sb) w wr)) (fun i _ => c.ifaces.length - (intOf i).toNat)
    all_goals first
      | exact ⟨0, S1, rfl, Nat.zero_le _, HSL, lhid (by simpa using HGL.out), HUL, HCL⟩
      | skip
    all_goals
      obtain ⟨kk, S', rfl, hkk, HS', HG', HU', HCh⟩ := hrel
      by_cases hlt : kk < c.ifaces.length
      · obtain ⟨x, hx⟩ : ∃ x, c.ifaces[kk]? = some x := ⟨_, List.getElem?_eq_getElem hlt⟩
        have HTN := lhid (take_nextS hx)
        have hxm := List.mem_of_getElem? hx
        have hxn := hC.1 c hc x hxm
        obtain ⟨ga, oa, cc, rfl, _, hE, hcl⟩ := (ha.out.ch (keptX_st P) HCh.out (fun g hg => hP.out g hg)).at' hx
        have c0 : wr.cell? ⟨ga, oa + kk, none⟩ = some (.string (tx x)) := by
          have := hcl 0 (.string (tx x)) (by rw [show cc = [.string (tx x)] from hE]; rfl)
          rwa [Nat.mul_one] at this
        have k3 : (kk : Int) < c.ifaces.length := by omega
        have hle := nodup_len S S' hS.out.1 HG'.out.old
        have hn' : (names L).length ≤ S'.length + n := by omega
        have HWr := lhid (hW.out.ch HCh.out)
        clear hx hE hcl hle hxm
        go_wp2_with fail
        with_reducible refine (gather_use hG Q tb cb ab sb v0 S' x _ HWr HS' HU' hxn hn').mono ?_
        rintro e w5 ⟨rfl, hch5, S5, hs5, hg5, hu5⟩
        have HS5 := lhid hs5
        have HG5 := lhid (HG'.out.trans hg5)
        have HU5 := lhid hu5
        have HC5 : Hid (Ch (· = sb) w w5) := lhid (HCh.out.trans hch5 (fun _ _ h => h))
        clear hch5 hs5 hg5 hu5 c0 hn' hxn
        go_wp2_with fail
        go_roundw
        case rel => exact ⟨kk + 1, S5, by go_num, by omega, HS5, lhid (by rw [HTN.out, ← List.append_assoc]; exact HG5.out), HU5, HC5⟩
        case measure => simp [intOf]; omega
      · have k3 : ¬ (kk : Int) < c.ifaces.length := by omega
        have e : kk = c.ifaces.length := by omega
        subst e
        rw [List.take_length] at HG'
        go_wp2_with fail
        go_end0
        exact ⟨rfl, HCh.out, S', HS'.out, by rw [HKO.out]; exact HG'.out, HU'.out⟩
set_option maxHeartbeats 16000000 in
set_option maxRecDepth 100000 in
theorem gather_at (L : List ClI) (hC : Closed L) (hSh : Short L) (hL : L.length ≤ 100) : ∀ n, GatherAt L n := by
  intro n
  induction n with
  | zero =>
    intro Q tb cb ab sb v0 S s w hW hS hU hs hn
    have hsl := short_name hSh hs
    have hmem : s ∈ S := by
      refine Classical.byContradiction fun hm => ?_
      have := nodup_len (s :: S) (names L) (List.nodup_cons.2 ⟨hm, hS.out.1⟩) (fun x hx => by rcases List.mem_cons.1 hx with h | h; rw [h]; exact hs; exact hU.out x h)
      simp only [List.length_cons] at this
      omega
    have HM := lhid hmem
    go_enter Tryz.func148, Tryz.ntmps148
    go_wp2_with fail
    with_reducible refine (has_any sb S s _ hS hsl).mono ?_
    rintro e w1 ⟨rfl, hb1⟩
    have HB1 := lhid hb1
    have HS1 := lhid (hS.out.below hb1)
    rw [decide_eq_true hmem]
    clear hb1 hmem
    go_wp2_with fail
    go_end0
    exact ⟨rfl, Ch.of HB1.out, S, HS1.out, Gat.one L HM.out, hU.out⟩
  | succ n ih =>
    intro Q tb cb ab sb v0 S s w hW hS hU hs hn
    have hsl := short_name hSh hs
    go_enter Tryz.func148, Tryz.ntmps148
    go_wp2_with fail
    with_reducible refine (has_any sb S s _ hS hsl).mono ?_
    rintro e w1 ⟨rfl, hb1⟩
    have HB1 := lhid hb1
    have HS1 := lhid (hS.out.below hb1)
    have HW1 := lhid (hW.out.below hb1)
    clear hb1
    by_cases hmem : s ∈ S
    · have HM := lhid hmem
      rw [decide_eq_true hmem]
      clear hmem
      go_wp2_with fail
      go_end0
      exact ⟨rfl, Ch.of HB1.out, S, HS1.out, Gat.one L HM.out, hU.out⟩
    · have HM := lhid hmem
      rw [decide_eq_false hmem]
      have hSl : S.length ≤ 100 := by
        have h1 := nodup_len S (names L) hS.out.1 hU.out
        have h2 : (names L).length = L.length := by unfold names; rw [List.length_map]
        omega
      clear hmem
      go_wp2_with fail
      with_reducible refine (add_any sb S s _ HS1 hsl HM (by unfold maxLen; omega)).mono ?_
      rintro e w2 ⟨rfl, hs2, hch2⟩
      have HS2 := lhid hs2
      have HW2 := lhid (HW1.out.ch hch2)
      have HC2 : Hid (Ch (· = sb) w w2) := lhid ((Ch.of HB1.out).trans hch2 (fun _ _ h => h))
      have HU2 : Hid (∀ z ∈ s :: S, z ∈ names L) := lhid (fun x hx => by rcases List.mem_cons.1 hx with h | h; rw [h]; exact hs; exact hU.out x h)
      clear hs2 hch2
      obtain ⟨y, hf⟩ := names_find hs
      have HF := lhid hf
      have hyL := (findC_some hf).1
      obtain ⟨f, hm, hfs⟩ := HW2.out.cm
      obtain ⟨u, hfu, cy, rfl, a', p', b', d', rfl, r1, _⟩ := (hfs s).2 y hf
      have hlk : (Instr.lookup 97 (.map (some cb)) (.string (tx s)) false).run Tryz.prog w2 = .ok (.agg #[.int .i64 y.flags, .string (tx y.name), .string (tx y.super), a', p', b', d']) w2 := by
        have := (hm.look und_cm (zero_cl w2) hsl).1
        rw [hfu] at this
        exact this
      have t1 : w2.cell? ⟨tb, 1, none⟩ = some (.map (some cb)) := heap_cell (i := 1) HW2.out.tr rfl
      have R1 := lhid r1
      have hn2 : (names L).length ≤ (s :: S).length + n := by simp only [List.length_cons]; omega
      clear hf hm hfs hfu r1
      go_wp2_with fail
      refine (gatherKin_at L hC hSh n ih Q Q tb cb ab sb v0 (s :: S) y a' p' b' d' w2 HW2 HS2 HU2 hyL R1 (lhid HW2.out.q) hn2).mono ?_
      rintro e w3 ⟨rfl, hch3, S3, hs3, hg3, hu3⟩
      have HS3 := lhid hs3
      have HG3 := lhid (Gat.into HF.out hg3)
      have HU3 := lhid hu3
      have HC3 : Hid (Ch (· = sb) w w3) := lhid (HC2.out.trans hch3 (fun _ _ h => h))
      clear hs3 hg3 hu3 hch3 t1 hlk
      go_wp2_with fail
      go_end0
      exact ⟨rfl, HC3.out, S3, HS3.out, HG3.out, HU3.out⟩
end Go.Proofs.YtpdnonlelocfbaaGreatDoor
/- climb: who stands above each class, found in whatever order. -/
namespace Go.Proofs.YtpdnonlelocfbaaGreatDoor
open Go.RowKit Go Go.Maps
set_option linter.unusedVariables false

theorem rch_iff (L : List ClI) (x z : Bs) : Rch L x z ↔ z = x ∨ ∃ n ∈ nxt L x, Rch L n z := by
  constructor
  · intro h
    cases h with
    | refl => exact .inl rfl
    | step h1 h2 => exact .inr ⟨_, h1, h2⟩
  · rintro (rfl | ⟨n, hn, h⟩)
    · exact .refl _
    · exact .step hn h
/-- Does the class of that name stand above itself? -/
def Circ (L : List ClI) (s : Bs) : Prop := ∃ n ∈ nxt L s, Rch L n s
/-- Block ab says of each name that is done who stands above it. -/
def AM (P : Nat → Prop) (w : World) (ab n : Nat) (L : List ClI) (done : Bs → Prop) : Prop :=
  ∃ f, MV w ab n f ∧ ∀ s : Bs, (done s → ∃ sb S, f s = some (.map (some sb)) ∧ SV w sb S ∧ P sb ∧ ∀ z, z ∈ S ↔ Rch L s z) ∧ (¬ done s → f s = none)
theorem und_am : Tryz.prog.underlying 98 = some (.map 9 170) := by kernel_rfl
theorem key_inv {key : Value} {kl : Lit} (h : keyOf Tryz.prog 9 key = some kl) : ∃ x : Bs, key = .string (tx x) ∧ kl = litS x ∧ x.length ≤ maxLen := by
  have hk := Tryz.underlying9
  cases key <;> simp [keyOf, hk, mapKey] at h
  rename_i s
  refine ⟨s.data.toList, by rw [tx_self], h.2.symm, ?_⟩
  have : s.data.toList.length = s.size := by simp
  omega
theorem Ch.grownBy {X : Nat → Prop} {b : Nat} {w w' : World} (h : Ch X w w') (hX : ∀ k, k < w.heap.size → X k → k = b) : w.grownBy w' (some b) :=
  ⟨h.os, h.tape, h.output, h.size, fun k hk hne => h.block k hk (fun e => hne (by rw [hX k hk e]))⟩
theorem same_lit (s x : Bs) : (litS s).sameKey (litS x) = decide (s = x) := by
  by_cases e : s = x
  · subst e
    rw [WideAt.sameKey_self (by trivial)]
    simp
  · rw [sameKey_ne (fun e2 => e (by injection e2))]
    simp [e]
theorem AM.ch {P X : Nat → Prop} {w w' : World} {ab n : Nat} {L : List ClI} {done : Bs → Prop} (h : AM P w ab n L done) (hc : Ch X w w') (ha : ¬ X ab) (hP : ∀ g, P g → ¬ X g) : AM P w' ab n L done := by
  obtain ⟨f, h1, h2⟩ := h
  refine ⟨f, h1.ch hc ha, fun s => ⟨fun hd => ?_, (h2 s).2⟩⟩
  obtain ⟨sb, S, h3, h4, h5, h6⟩ := (h2 s).1 hd
  exact ⟨sb, S, h3, h4.ch hc (hP sb h5), h5, h6⟩
set_option maxHeartbeats 16000000 in
set_option maxRecDepth 100000 in
theorem climb_any (Q : Nat → Prop) (L : List ClI) (hC : Closed L) (hSh : Short L) (hL : L.length ≤ 100) (tb cb ab : Nat) (v0 : Value) (w : World) (hT : Hid (Tr w tb cb ab v0)) (hCM : Hid (CM Q w cb L)) (hA : Hid (MV w ab 0 (fun _ => none))) (h1 : ab ≠ tb) (h2 : ab ≠ cb) (hQ : Hid (∀ g, Q g → g ≠ ab ∧ g < w.heap.size)) :
    Calls Tryz.prog 47 #[.pointer (some ⟨tb, 0, none⟩)] w fun e w' => Ch (· = ab) w w' ∧ ((e = .returned (.bool false) ∧ ∃ s ∈ names L, Circ L s) ∨ (e = .returned (.bool true) ∧ (∀ s ∈ names L, ¬ Circ L s) ∧ ∃ n, AM (fun g => w.heap.size ≤ g) w' ab n L (fun s => s ∈ names L))) := by
  obtain ⟨f, ⟨D, hown, hD⟩, hfs⟩ := hCM.out
  have HD := lhid hD
  have HFS := lhid hfs
  have hcb := hown.lt
  have htb := heap_lt hT.out
  have hab := hA.out.lt
  have t1 : w.cell? ⟨tb, 1, none⟩ = some (.map (some cb)) := heap_cell (i := 1) hT.out rfl
  have hsz := hown.size_le
  clear hD hfs
  have hmm := @run_makeMap Tryz.prog
  go_enter Tryz.func47, Tryz.ntmps47
  go_wp2_with (at_range; refine wpList_range_own _ rfl _ 97 rfl 9 39 lawS und_cm hv cb L.length D rfl hown ?_)
  intro w0 hrg0 hg0 hs0
  have HRG0 := lhid hrg0
  have HC0 : Hid (Ch (· = ab) w w0) := lhid ((Ch.refl _ w).grown hg0 (by simp))
  have HA0 := lhid (hA.out.of (hg0.block ab hab (by simp)))
  have HNM : Hid (∀ s, s ∈ names L → has D (litS s) = true) := lhid (fun s hs => by
    obtain ⟨c, hc⟩ := names_find hs
    obtain ⟨v, hv', _⟩ := (HFS.out s).2 c hc
    rw [(HD.out s (short_name hSh hs)).1, hv']
    rfl)
  clear hg0 t1
  go_wp2_with fail
  go_loopw [3] (fun _ wr => ∃ (left : Lit → Bool) (cnt n : Nat), Hid (wr.ranges Tryz.prog 9 hv cb w.heap.size L.length D left cnt) ∧ Hid (∀ kl, left kl = true → has D kl = true) ∧ n + cnt ≤ L.length ∧ Hid (AM (fun g => w.heap.size < g) wr ab n L (fun s => s ∈ names L ∧ left (litS s) = false)) ∧ Hid (Ch (· = ab) w wr) ∧ Hid (∀ s, s ∈ names L → left (litS s) = false → ¬ Circ L s)) (fun _ wr => wr.rangeLeft cb w.heap.size)
  case atStart =>
    refine ⟨_, _, 0, HRG0, lhid (fun _ h => h), by omega, lhid ?_, HC0, lhid ?_⟩
    · refine ⟨_, HA0.out, fun s => ⟨fun h => ?_, fun _ => rfl⟩⟩
      have := HNM.out s h.1
      rw [h.2] at this
      cases this
    · intro s hs hl
      have := HNM.out s hs
      rw [hl] at this
      cases this
  case round =>
    obtain ⟨left, cnt, n, HRG, HLH, hncnt, HAM, HCh, HNC⟩ := hrel
    clear hmm
    have hbs := HCh.out.size
    have hr0 : w.heap.size < wr.heap.size := HRG.out.lt
    go_wp2_with (at_next; refine wpList_next_ranges _ rfl _ rfl 9 lawS hv (fun x : Bs => .string (tx x)) (fun v : Value => v) (fun key kl hk => (key_inv hk).imp fun x hx => hx.1) (fun v y _ => ⟨v, rfl⟩) cb w.heap.size L.length D left cnt rfl HRG.out ?b1 ?b2)
    case b1 =>
      intro hc0 hl0
      have HL0 := lhid hl0
      clear hl0
      go_wp2_with fail
      go_ret
      refine ⟨HCh.out, .inr ⟨rfl, fun s hs => HNC.out s hs (HL0.out _), n, ?_⟩⟩
      obtain ⟨fA, q1, q2⟩ := HAM.out
      exact ⟨fA, q1, fun s => ⟨fun hs => by
        obtain ⟨sb, S, q3, q4, q5, q6⟩ := (q2 s).1 ⟨hs, HL0.out _⟩
        exact ⟨sb, S, q3, q4, Nat.le_of_lt q5, q6⟩, fun hs => (q2 s).2 (fun h => hs h.1)⟩⟩
    case b2 =>
      intro x c kl y1 y2 w1 cnt' hkey hlk hv0 hat hrg1 hlt hg1 hs1 hen
      obtain ⟨x', hx', rfl, hxl⟩ := key_inv hkey
      obtain rfl : x = x' := by injection hx' with hx'; exact tx_inj hx'
      have hhas := HLH.out _ hlk
      have hDx := HD.out x hxl
      obtain ⟨u, hfu⟩ : ∃ u, f x = some u := Option.isSome_iff_exists.1 (by rw [← hDx.1]; exact hhas)
      have hcu : c = u := by
        have e1 := hat (.held u)
        rw [hDx.2 u hfu] at e1
        have e2 := hv_eq (d := y1) (ps := y2) hv0
        rw [← e1] at e2
        injection e2 with e2
        exact e2.symm
      subst hcu
      obtain ⟨c0, hc0⟩ : ∃ c0, findC L x = some c0 := by
        cases hq : findC L x with
        | none => rw [(HFS.out x).1 hq] at hfu; cases hfu
        | some c0 => exact ⟨c0, rfl⟩
      obtain ⟨v', hv', cs, rfl, hE⟩ := (HFS.out x).2 c0 hc0
      rw [hfu] at hv'
      injection hv' with hv'
      subst hv'
      have HE := lhid hE
      obtain ⟨a, p, b, d, rfl, r1, r2, r3, r4⟩ := hE
      obtain ⟨xa, da, rfl⟩ := r1.shape
      obtain ⟨xp, dp, rfl⟩ := r2.shape
      obtain ⟨xb, db, rfl⟩ := r3.shape
      obtain ⟨xd, dd, rfl⟩ := r4.shape
      have HC0' := lhid hc0
      have HRG1 := lhid hrg1
      have HG1 := lhid hg1
      have HLK := lhid hlk
      have R1 := lhid r1
      clear hkey hlk hv0 hat hrg1 hhas hDx hfu hc0 r1 r2 r3 r4 hx' hg1
      have hmm := @run_makeMap Tryz.prog
      have hrl : w.heap.size < w1.heap.size := by omega
      have HS1 := lhid hs1
      clear hs1
      have HC1 : Hid (Ch (· = ab) w w1) := lhid (HCh.out.grown HG1.out (fun k hk hl => by injection hk with hk; omega))
      have hB : Below w1.heap.size w1 ((w1.alloc (.cells #[.int .i64 c0.flags, .string (tx c0.name), .string (tx c0.super), .slice xa c0.ifaces.length da, .slice xp c0.pool.length dp, .slice xb c0.fields.length db, .slice xd c0.methods.length dd] 39)).alloc (.map #[] 0)) := ((Below.refl _ _).alloc (Nat.le_refl _) _).alloc (by simp) _
      have HB := lhid hB
      have hc0L := (findC_some HC0'.out).1
      have HW : Hid (Wood Q L tb cb ab (w1.heap.size + 1) v0 ((w1.alloc (.cells #[.int .i64 c0.flags, .string (tx c0.name), .string (tx c0.super), .slice xa c0.ifaces.length da, .slice xp c0.pool.length dp, .slice xb c0.fields.length db, .slice xd c0.methods.length dd] 39)).alloc (.map #[] 0))) := lhid ⟨(hT.out.ch HC1.out (Ne.symm h1)).below hB, (hCM.out.ch HC1.out (Ne.symm h2) (fun g hg => (hQ.out g hg).1)).below hB, by omega, by omega, fun g hg => by have := (hQ.out g hg).2; omega⟩
      have HSV : Hid (SV ((w1.alloc (.cells #[.int .i64 c0.flags, .string (tx c0.name), .string (tx c0.super), .slice xa c0.ifaces.length da, .slice xp c0.pool.length dp, .slice xb c0.fields.length db, .slice xd c0.methods.length dd] 39)).alloc (.map #[] 0)) (w1.heap.size + 1) []) := lhid (by
        have := sv_made (w1.alloc (.cells #[.int .i64 c0.flags, .string (tx c0.name), .string (tx c0.super), .slice xa c0.ifaces.length da, .slice xp c0.pool.length dp, .slice xb c0.fields.length db, .slice xd c0.methods.length dd] 39))
        simpa using this)
      have RA := lhid ((R1.out.ch (keptX_st Q) HC1.out (fun g hg => (hQ.out g hg).1)).below (keptX_st Q) hB)
      have HN : Hid (nxt L x = kinOf L c0) := lhid (by unfold nxt; rw [HC0'.out])
      have hxn := find_names HC0'.out
      clear hB
      go_wp2_with fail
      have HG0 := gather_at L hC hSh hL (names L).length
      with_reducible refine (gatherKin_at L hC hSh (names L).length HG0 Q Q tb cb ab (w1.heap.size + 1) v0 [] c0 (.slice xa c0.ifaces.length da) (.slice xp c0.pool.length dp) (.slice xb c0.fields.length db) (.slice xd c0.methods.length dd) ((w1.alloc (.cells #[.int .i64 c0.flags, .string (tx c0.name), .string (tx c0.super), .slice xa c0.ifaces.length da, .slice xp c0.pool.length dp, .slice xb c0.fields.length db, .slice xd c0.methods.length dd] 39)).alloc (.map #[] 0)) HW HSV (lhid (by simp)) hc0L RA (lhid HW.out.q) (by simp)).mono ?_
      rintro e w2 ⟨rfl, hch2, S', hs2, hg2, hu2⟩
      have HS2 := lhid hs2
      have HGE := lhid hg2.exact
      have HU2 := lhid hu2
      have HCa : Hid (Ch (fun _ => False) w1 w2) := lhid (((Ch.refl (fun _ => False) w1).below HB.out).trans hch2 (fun i hi e => by omega))
      clear hs2 hg2 hu2 hch2 hmm
      go_wp2_with fail
      with_reducible refine (has_any (w1.heap.size + 1) S' x _ HS2 hxl).mono ?_
      rintro e w3 ⟨rfl, hb3⟩
      have HCb : Hid (Ch (fun _ => False) w1 w3) := lhid (HCa.out.below hb3)
      have HS3 := lhid (HS2.out.below hb3)
      clear hb3
      by_cases hm : x ∈ S'
      · have HM := lhid hm
        rw [decide_eq_true hm]
        clear hm
        go_wp2_with fail
        go_ret
        exact ⟨HC1.out.trans HCb.out (fun _ _ h => h.elim), .inl ⟨rfl, x, hxn, by unfold Circ; rw [HN.out]; exact (HGE.out x).1 HM.out⟩⟩
      · have HM := lhid hm
        rw [decide_eq_false hm]
        clear hm
        have hSl : S'.length ≤ 100 := by
          have e1 := nodup_len S' (names L) HS2.out.1 HU2.out
          have e2 : (names L).length = L.length := by unfold names; rw [List.length_map]
          omega
        go_wp2_with fail
        with_reducible refine (add_any (w1.heap.size + 1) S' x _ HS3 hxl HM (by unfold maxLen; omega)).mono ?_
        rintro e w4 ⟨rfl, hs4, hch4⟩
        have HS4 := lhid hs4
        have HCc : Hid (Ch (fun _ => False) w1 w4) := lhid (HCb.out.trans hch4 (fun i hi e => by omega))
        have HCr : Hid (Ch (· = w.heap.size) wr w4) := lhid (((Ch.refl (· = w.heap.size) wr).grown HG1.out (fun k hk _ => by injection hk with hk; exact hk.symm)).trans HCc.out (fun _ _ h => h.elim))
        have HAM4 := lhid (HAM.out.ch HCr.out (by omega) (fun g hg => by omega))
        clear hs4 hch4
        obtain ⟨fA, hq1, hq2⟩ := HAM4.out
        have HQ1 := lhid hq1
        have HQ2 := lhid hq2
        have t2 : w4.cell? ⟨tb, 2, none⟩ = some (.map (some ab)) := heap_cell (i := 2) ((hT.out.ch HC1.out (Ne.symm h1)).ch HCc.out (fun h => h)) rfl
        have h4s := HCc.out.size
        clear hq1 hq2
        go_wp2_with (at_mapUpdate; refine wpList_put_mv _ rfl _ _ _ 98 rfl _ und_am ab n fA rfl HQ1.out (by unfold maxLen; omega) x rfl hxl (.map (some (w1.heap.size + 1))) rfl ?_)
        intro w5 hm5 hg5 hs5
        have HM5 := lhid hm5
        have HC5 : Hid (Ch (· = ab) w4 w5) := lhid ((Ch.refl _ w4).grown hg5 (fun k hk _ => by injection hk with hk; exact hk.symm))
        have HC15 : Hid (Ch (· = ab) w1 w5) := lhid ((HCc.out.mono (fun _ _ h => h.elim)).trans HC5.out (fun _ _ h => h))
        have HRG5 := lhid (HRG1.out.kept (HC15.out.grownBy (fun _ _ h => h)) (fun e => by injection e with e; exact h2 e.symm) (fun e => by injection e with e; omega))
        clear hm5 hg5 t2
        go_wp2_with fail
        go_roundw
        case rel =>
          refine ⟨_, cnt', n + 1, HRG5, lhid (fun kl h => HLH.out kl (by simp only [Bool.and_eq_true] at h; exact h.1)), by omega, lhid ⟨_, HM5.out, fun s => ?_⟩, lhid (HC1.out.trans HC15.out (fun _ _ h => h)), lhid (fun s hs hl => ?_)⟩
          · by_cases e : s = x
            · subst e
              rw [if_pos rfl]
              refine ⟨fun _ => ⟨w1.heap.size + 1, s :: S', rfl, HS4.out.ch HC5.out (by omega), by omega, fun z => ?_⟩, fun hd => ?_⟩
              · rw [rch_iff, HN.out, List.mem_cons, HGE.out z]
              · exact absurd ⟨hxn, by rw [same_lit]; simp⟩ hd
            · rw [if_neg e]
              have hsl : (left (litS s) && !(litS s).sameKey (litS x)) = left (litS s) := by rw [same_lit, decide_eq_false e]; simp
              refine ⟨fun hd => ?_, fun hd => (HQ2.out s).2 (fun h => hd ⟨h.1, hsl.trans h.2⟩)⟩
              obtain ⟨sb, S, q3, q4, q5, q6⟩ := (HQ2.out s).1 ⟨hd.1, hsl.symm.trans hd.2⟩
              exact ⟨sb, S, q3, q4.ch HC5.out (by omega), q5, q6⟩
          · by_cases e : s = x
            · subst e
              unfold Circ
              rw [HN.out]
              exact fun h => HM.out ((HGE.out s).2 h)
            · rw [same_lit, decide_eq_false e] at hl
              exact HNC.out s hs (by simpa using hl)
        case measure =>
          rw [HRG5.out.left_eq, HRG.out.left_eq]
          omega
end Go.Proofs.YtpdnonlelocfbaaGreatDoor
