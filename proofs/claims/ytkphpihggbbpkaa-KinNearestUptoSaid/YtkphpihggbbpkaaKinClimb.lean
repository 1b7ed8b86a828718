/- climb: who stands above each class, found in whatever order. -/
import Derived.Test.YtkphpihggbbpkaaKinGather
namespace Go.Proofs.Ytkphpihggbbpkaa
open Go.RowKit Go Go.Maps
set_option linter.unusedVariables false

theorem rch_iff (L : List ClI) (x z : Bs) : Rch L x z ↔ z = x ∨ ∃ n ∈ nxt L x, Rch L n z := by
  constructor
  · intro h
    cases h with
    | refl => exact .inl rfl
    | step h1 h2 => exact .inr ⟨_, h1, h2⟩
  · rintro (rfl | ⟨n, hn, h⟩)
    · exact .refl _
    · exact .step hn h
/-- Does the class of that name stand above itself? -/
def Circ (L : List ClI) (s : Bs) : Prop := ∃ n ∈ nxt L s, Rch L n s
/-- Block ab says of each name that is done who stands above it. -/
def AM (P : Nat → Prop) (w : World) (ab n : Nat) (L : List ClI) (done : Bs → Prop) : Prop :=
  ∃ f, MV w ab n f ∧ ∀ s : Bs, (done s → ∃ sb S, f s = some (.map (some sb)) ∧ SV w sb S ∧ P sb ∧ ∀ z, z ∈ S ↔ Rch L s z) ∧ (¬ done s → f s = none)
theorem und_am : Try.prog.underlying 59 = some (.map 9 67) := by kernel_rfl
theorem key_inv {key : Value} {kl : Lit} (h : keyOf Try.prog 9 key = some kl) : ∃ x : Bs, key = .string (tx x) ∧ kl = litS x ∧ x.length ≤ maxLen := by
  have hk := Try.underlying9
  cases key <;> simp [keyOf, hk, mapKey] at h
  rename_i s
  refine ⟨s.data.toList, by rw [tx_self], h.2.symm, ?_⟩
  have : s.data.toList.length = s.size := by simp
  omega
theorem Ch.grownBy {X : Nat → Prop} {b : Nat} {w w' : World} (h : Ch X w w') (hX : ∀ k, k < w.heap.size → X k → k = b) : w.grownBy w' (some b) :=
  ⟨h.os, h.tape, h.output, h.size, fun k hk hne => h.block k hk (fun e => hne (by rw [hX k hk e]))⟩
theorem same_lit (s x : Bs) : (litS s).sameKey (litS x) = decide (s = x) := by
  by_cases e : s = x
  · subst e
    rw [WideAt.sameKey_self (by trivial)]
    simp
  · rw [sameKey_ne (fun e2 => e (by injection e2))]
    simp [e]
theorem AM.ch {P X : Nat → Prop} {w w' : World} {ab n : Nat} {L : List ClI} {done : Bs → Prop} (h : AM P w ab n L done) (hc : Ch X w w') (ha : ¬ X ab) (hP : ∀ g, P g → ¬ X g) : AM P w' ab n L done := by
  obtain ⟨f, h1, h2⟩ := h
  refine ⟨f, h1.ch hc ha, fun s => ⟨fun hd => ?_, (h2 s).2⟩⟩
  obtain ⟨sb, S, h3, h4, h5, h6⟩ := (h2 s).1 hd
  exact ⟨sb, S, h3, h4.ch hc (hP sb h5), h5, h6⟩
set_option maxHeartbeats 16000000 in
set_option maxRecDepth 100000 in
theorem climb_any (Q : Nat → Prop) (L : List ClI) (hC : Closed L) (hSh : Short L) (hL : L.length ≤ 100) (tb cb ab : Nat) (v0 : Value) (w : World) (hT : Hid (Tr w tb cb ab v0)) (hCM : Hid (CM Q w cb L)) (hA : Hid (MV w ab 0 (fun _ => none))) (h1 : ab ≠ tb) (h2 : ab ≠ cb) (hQ : Hid (∀ g, Q g → g ≠ ab ∧ g < w.heap.size)) :
    Calls Try.prog 23 #[.pointer (some ⟨tb, 0, none⟩)] w fun e w' => Ch (· = ab) w w' ∧ ((e = .returned (.bool false) ∧ ∃ s ∈ names L, Circ L s) ∨ (e = .returned (.bool true) ∧ (∀ s ∈ names L, ¬ Circ L s) ∧ ∃ n, AM (fun g => w.heap.size ≤ g) w' ab n L (fun s => s ∈ names L))) := by
  obtain ⟨f, ⟨D, hown, hD⟩, hfs⟩ := hCM.out
  have HD := lhid hD
  have HFS := lhid hfs
  have hcb := hown.lt
  have htb := heap_lt hT.out
  have hab := hA.out.lt
  have t1 : w.cell? ⟨tb, 1, none⟩ = some (.map (some cb)) := heap_cell (i := 1) hT.out rfl
  have hsz := hown.size_le
  clear hD hfs
  have hmm := @run_makeMap Try.prog
  go_enter Try.func23, Try.ntmps23
  go_wp2_with (at_range; refine wpList_range_own _ rfl _ 58 rfl 9 35 lawS und_cm hv cb L.length D rfl hown ?_)
  intro w0 hrg0 hg0 hs0
  have HRG0 := lhid hrg0
  have HC0 : Hid (Ch (· = ab) w w0) := lhid ((Ch.refl _ w).grown hg0 (by simp))
  have HA0 := lhid (hA.out.of (hg0.block ab hab (by simp)))
  have HNM : Hid (∀ s, s ∈ names L → has D (litS s) = true) := lhid (fun s hs => by
    obtain ⟨c, hc⟩ := names_find hs
    obtain ⟨v, hv', _⟩ := (HFS.out s).2 c hc
    rw [(HD.out s (short_name hSh hs)).1, hv']
    rfl)
  clear hg0 t1
  go_wp2_with fail
  go_loopw [3] (fun _ wr => ∃ (left : Lit → Bool) (cnt n : Nat), Hid (wr.ranges Try.prog 9 hv cb w.heap.size L.length D left cnt) ∧ Hid (∀ kl, left kl = true → has D kl = true) ∧ n + cnt ≤ L.length ∧ Hid (AM (fun g => w.heap.size < g) wr ab n L (fun s => s ∈ names L ∧ left (litS s) = false)) ∧ Hid (Ch (· = ab) w wr) ∧ Hid (∀ s, s ∈ names L → left (litS s) = false → ¬ Circ L s)) (fun _ wr => wr.rangeLeft cb w.heap.size)
  case atStart =>
    refine ⟨_, _, 0, HRG0, lhid (fun _ h => h), by omega, lhid ?_, HC0, lhid ?_⟩
    · refine ⟨_, HA0.out, fun s => ⟨fun h => ?_, fun _ => rfl⟩⟩
      have := HNM.out s h.1
      rw [h.2] at this
      cases this
    · intro s hs hl
      have := HNM.out s hs
      rw [hl] at this
      cases this
  case round =>
    obtain ⟨left, cnt, n, HRG, HLH, hncnt, HAM, HCh, HNC⟩ := hrel
    clear hmm
    have hbs := HCh.out.size
    have hr0 : w.heap.size < wr.heap.size := HRG.out.lt
    go_wp2_with (at_next; refine wpList_next_ranges _ rfl _ rfl 9 lawS hv (fun x : Bs => .string (tx x)) (fun v : Value => v) (fun key kl hk => (key_inv hk).imp fun x hx => hx.1) (fun v y _ => ⟨v, rfl⟩) cb w.heap.size L.length D left cnt rfl HRG.out ?b1 ?b2)
    case b1 =>
      intro hc0 hl0
      have HL0 := lhid hl0
      clear hl0
      go_wp2_with fail
      go_ret
      refine ⟨HCh.out, .inr ⟨rfl, fun s hs => HNC.out s hs (HL0.out _), n, ?_⟩⟩
      obtain ⟨fA, q1, q2⟩ := HAM.out
      exact ⟨fA, q1, fun s => ⟨fun hs => by
        obtain ⟨sb, S, q3, q4, q5, q6⟩ := (q2 s).1 ⟨hs, HL0.out _⟩
        exact ⟨sb, S, q3, q4, Nat.le_of_lt q5, q6⟩, fun hs => (q2 s).2 (fun h => hs h.1)⟩⟩
    case b2 =>
      intro x c kl y1 y2 w1 cnt' hkey hlk hv0 hat hrg1 hlt hg1 hs1 hen
      obtain ⟨x', hx', rfl, hxl⟩ := key_inv hkey
      obtain rfl : x = x' := by injection hx' with hx'; exact tx_inj hx'
      have hhas := HLH.out _ hlk
      have hDx := HD.out x hxl
      obtain ⟨u, hfu⟩ : ∃ u, f x = some u := Option.isSome_iff_exists.1 (by rw [← hDx.1]; exact hhas)
      have hcu : c = u := by
        have e1 := hat (.held u)
        rw [hDx.2 u hfu] at e1
        have e2 := hv_eq (d := y1) (ps := y2) hv0
        rw [← e1] at e2
        injection e2 with e2
        exact e2.symm
      subst hcu
      obtain ⟨c0, hc0⟩ : ∃ c0, findC L x = some c0 := by
        cases hq : findC L x with
        | none => rw [(HFS.out x).1 hq] at hfu; cases hfu
        | some c0 => exact ⟨c0, rfl⟩
      obtain ⟨v', hv', cs, rfl, hE⟩ := (HFS.out x).2 c0 hc0
      rw [hfu] at hv'
      injection hv' with hv'
      subst hv'
      have HE := lhid hE
      obtain ⟨a, p, b, d, rfl, r1, r2, r3, r4⟩ := hE
      obtain ⟨xa, da, rfl⟩ := r1.shape
      obtain ⟨xp, dp, rfl⟩ := r2.shape
      obtain ⟨xb, db, rfl⟩ := r3.shape
      obtain ⟨xd, dd, rfl⟩ := r4.shape
      have HC0' := lhid hc0
      have HRG1 := lhid hrg1
      have HG1 := lhid hg1
      have HLK := lhid hlk
      have R1 := lhid r1
      clear hkey hlk hv0 hat hrg1 hhas hDx hfu hc0 r1 r2 r3 r4 hx' hg1
      have hmm := @run_makeMap Try.prog
      have hrl : w.heap.size < w1.heap.size := by omega
      have HS1 := lhid hs1
      clear hs1
      have HC1 : Hid (Ch (· = ab) w w1) := lhid (HCh.out.grown HG1.out (fun k hk hl => by injection hk with hk; omega))
      have hB : Below w1.heap.size w1 ((w1.alloc (.cells #[.int .i64 c0.flags, .string (tx c0.name), .string (tx c0.super), .slice xa c0.ifaces.length da, .slice xp c0.pool.length dp, .slice xb c0.fields.length db, .slice xd c0.methods.length dd] 35)).alloc (.map #[] 0)) := ((Below.refl _ _).alloc (Nat.le_refl _) _).alloc (by simp) _
      have HB := lhid hB
      have hc0L := (findC_some HC0'.out).1
      have HW : Hid (Wood Q L tb cb ab (w1.heap.size + 1) v0 ((w1.alloc (.cells #[.int .i64 c0.flags, .string (tx c0.name), .string (tx c0.super), .slice xa c0.ifaces.length da, .slice xp c0.pool.length dp, .slice xb c0.fields.length db, .slice xd c0.methods.length dd] 35)).alloc (.map #[] 0))) := lhid ⟨(hT.out.ch HC1.out (Ne.symm h1)).below hB, (hCM.out.ch HC1.out (Ne.symm h2) (fun g hg => (hQ.out g hg).1)).below hB, by omega, by omega, fun g hg => by have := (hQ.out g hg).2; omega⟩
      have HSV : Hid (SV ((w1.alloc (.cells #[.int .i64 c0.flags, .string (tx c0.name), .string (tx c0.super), .slice xa c0.ifaces.length da, .slice xp c0.pool.length dp, .slice xb c0.fields.length db, .slice xd c0.methods.length dd] 35)).alloc (.map #[] 0)) (w1.heap.size + 1) []) := lhid (by
        have := sv_made (w1.alloc (.cells #[.int .i64 c0.flags, .string (tx c0.name), .string (tx c0.super), .slice xa c0.ifaces.length da, .slice xp c0.pool.length dp, .slice xb c0.fields.length db, .slice xd c0.methods.length dd] 35))
        simpa using this)
      have RA := lhid ((R1.out.ch (keptX_st Q) HC1.out (fun g hg => (hQ.out g hg).1)).below (keptX_st Q) hB)
      have HN : Hid (nxt L x = kinOf L c0) := lhid (by unfold nxt; rw [HC0'.out])
      have hxn := find_names HC0'.out
      clear hB
      go_wp2_with fail
      have HG0 := gather_at L hC hSh hL (names L).length
      with_reducible refine (gatherKin_at L hC hSh (names L).length HG0 Q Q tb cb ab (w1.heap.size + 1) v0 [] c0 (.slice xa c0.ifaces.length da) (.slice xp c0.pool.length dp) (.slice xb c0.fields.length db) (.slice xd c0.methods.length dd) ((w1.alloc (.cells #[.int .i64 c0.flags, .string (tx c0.name), .string (tx c0.super), .slice xa c0.ifaces.length da, .slice xp c0.pool.length dp, .slice xb c0.fields.length db, .slice xd c0.methods.length dd] 35)).alloc (.map #[] 0)) HW HSV (lhid (by simp)) hc0L RA (lhid HW.out.q) (by simp)).mono ?_
      rintro e w2 ⟨rfl, hch2, S', hs2, hg2, hu2⟩
      have HS2 := lhid hs2
      have HGE := lhid hg2.exact
      have HU2 := lhid hu2
      have HCa : Hid (Ch (fun _ => False) w1 w2) := lhid (((Ch.refl (fun _ => False) w1).below HB.out).trans hch2 (fun i hi e => by omega))
      clear hs2 hg2 hu2 hch2 hmm
      go_wp2_with fail
      with_reducible refine (has_any (w1.heap.size + 1) S' x _ HS2 hxl).mono ?_
      rintro e w3 ⟨rfl, hb3⟩
      have HCb : Hid (Ch (fun _ => False) w1 w3) := lhid (HCa.out.below hb3)
      have HS3 := lhid (HS2.out.below hb3)
      clear hb3
      by_cases hm : x ∈ S'
      · have HM := lhid hm
        rw [decide_eq_true hm]
        clear hm
        go_wp2_with fail
        go_ret
        exact ⟨HC1.out.trans HCb.out (fun _ _ h => h.elim), .inl ⟨rfl, x, hxn, by unfold Circ; rw [HN.out]; exact (HGE.out x).1 HM.out⟩⟩
      · have HM := lhid hm
        rw [decide_eq_false hm]
        clear hm
        have hSl : S'.length ≤ 100 := by
          have e1 := nodup_len S' (names L) HS2.out.1 HU2.out
          have e2 : (names L).length = L.length := by unfold names; rw [List.length_map]
          omega
        go_wp2_with fail
        with_reducible refine (add_any (w1.heap.size + 1) S' x _ HS3 hxl HM (by unfold maxLen; omega)).mono ?_
        rintro e w4 ⟨rfl, hs4, hch4⟩
        have HS4 := lhid hs4
        have HCc : Hid (Ch (fun _ => False) w1 w4) := lhid (HCb.out.trans hch4 (fun i hi e => by omega))
        have HCr : Hid (Ch (· = w.heap.size) wr w4) := lhid (((Ch.refl (· = w.heap.size) wr).grown HG1.out (fun k hk _ => by injection hk with hk; exact hk.symm)).trans HCc.out (fun _ _ h => h.elim))
        have HAM4 := lhid (HAM.out.ch HCr.out (by omega) (fun g hg => by omega))
        clear hs4 hch4
        obtain ⟨fA, hq1, hq2⟩ := HAM4.out
        have HQ1 := lhid hq1
        have HQ2 := lhid hq2
        have t2 : w4.cell? ⟨tb, 2, none⟩ = some (.map (some ab)) := heap_cell (i := 2) ((hT.out.ch HC1.out (Ne.symm h1)).ch HCc.out (fun h => h)) rfl
        have h4s := HCc.out.size
        clear hq1 hq2
        go_wp2_with (at_mapUpdate; refine wpList_put_mv _ rfl _ _ _ 59 rfl _ und_am ab n fA rfl HQ1.out (by unfold maxLen; omega) x rfl hxl (.map (some (w1.heap.size + 1))) rfl ?_)
        intro w5 hm5 hg5 hs5
        have HM5 := lhid hm5
        have HC5 : Hid (Ch (· = ab) w4 w5) := lhid ((Ch.refl _ w4).grown hg5 (fun k hk _ => by injection hk with hk; exact hk.symm))
        have HC15 : Hid (Ch (· = ab) w1 w5) := lhid ((HCc.out.mono (fun _ _ h => h.elim)).trans HC5.out (fun _ _ h => h))
        have HRG5 := lhid (HRG1.out.kept (HC15.out.grownBy (fun _ _ h => h)) (fun e => by injection e with e; exact h2 e.symm) (fun e => by injection e with e; omega))
        clear hm5 hg5 t2
        go_wp2_with fail
        go_roundw
        case rel =>
          refine ⟨_, cnt', n + 1, HRG5, lhid (fun kl h => HLH.out kl (by simp only [Bool.and_eq_true] at h; exact h.1)), by omega, lhid ⟨_, HM5.out, fun s => ?_⟩, lhid (HC1.out.trans HC15.out (fun _ _ h => h)), lhid (fun s hs hl => ?_)⟩
          · by_cases e : s = x
            · subst e
              rw [if_pos rfl]
              refine ⟨fun _ => ⟨w1.heap.size + 1, s :: S', rfl, HS4.out.ch HC5.out (by omega), by omega, fun z => ?_⟩, fun hd => ?_⟩
              · rw [rch_iff, HN.out, List.mem_cons, HGE.out z]
              · exact absurd ⟨hxn, by rw [same_lit]; simp⟩ hd
            · rw [if_neg e]
              have hsl : (left (litS s) && !(litS s).sameKey (litS x)) = left (litS s) := by rw [same_lit, decide_eq_false e]; simp
              refine ⟨fun hd => ?_, fun hd => (HQ2.out s).2 (fun h => hd ⟨h.1, hsl.trans h.2⟩)⟩
              obtain ⟨sb, S, q3, q4, q5, q6⟩ := (HQ2.out s).1 ⟨hd.1, hsl.symm.trans hd.2⟩
              exact ⟨sb, S, q3, q4.ch HC5.out (by omega), q5, q6⟩
          · by_cases e : s = x
            · subst e
              unfold Circ
              rw [HN.out]
              exact fun h => HM.out ((HGE.out s).2 h)
            · rw [same_lit, decide_eq_false e] at hl
              exact HNC.out s hs (by simpa using hl)
        case measure =>
          rw [HRG5.out.left_eq, HRG.out.left_eq]
          omega
end Go.Proofs.Ytkphpihggbbpkaa
