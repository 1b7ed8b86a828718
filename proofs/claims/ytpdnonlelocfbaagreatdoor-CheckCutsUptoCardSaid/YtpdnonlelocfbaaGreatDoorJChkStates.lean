/- The walk of CheckStates. -/
import Derived.Test.YtpdnonlelocfbaaGreatDoorM22
import Derived.Test.YtpdnonlelocfbaaGreatDoorQuietC
import Derived.Test.YtpdnonlelocfbaaGreatDoorM16
import Derived.Deep.Cut
import Derived.Deep.CutRange
namespace Go.Proofs.YtpdnonlelocfbaaGreatDoor
open Go.RowKit Go Go.Maps
set_option linter.unusedVariables false
theorem metC_er {E : Chk} {dec : Int × List Ins} {len stack locals : Int} {d : Int × List Bs} {stat : Bool} {frames : List FrI} {rows : List RwI} {v : Int} (h : metC E dec len stack locals d stat frames rows = .er v) : v ≠ 0 := by
  rw [metC_eq] at h
  split at h
  · rename_i h1
    injection h with h
    exact h ▸ h1
  split at h
  · rename_i h1
    injection h with h
    exact h ▸ h1
  split at h
  · rename_i h1
    injection h with h
    exact h ▸ h1
  cases hw : walkC E (takeF E locals.toNat dec.2 frames (-1) []).2 rows dec.2 true ⟨fill (firstLoc E stat d.2) locals.toNat, [], 0⟩ [] with
  | er e =>
    rw [hw] at h
    injection h with h
    subst h
    exact walkC_er _ _ _ _ hw
  | ok kn l =>
    rw [hw] at h
    cases kn with
    | true =>
      injection h with h
      subst h
      decide
    | false => cases h
theorem metC_okb {E : Chk} {dec : Int × List Ins} {len stack locals : Int} {d : Int × List Bs} {stat : Bool} {frames : List FrI} {rows : List RwI} {l : List Sta} (h : metC E dec len stack locals d stat frames rows = .ok l) : 0 ≤ stack ∧ stack ≤ 20 ∧ 0 ≤ locals ∧ locals ≤ 40 := by
  rw [metC_eq] at h
  split at h
  · cases h
  · rename_i h1
    exact (bgE_zero (Classical.not_not.1 h1)).2.1
/-- What is answered, as the law asks it. -/
structure StL (L : List ClI) (X : ClI) (m : MeI) (sl : List Sta) : Prop where
  loc : ∀ x ∈ sl, (x.1.length : Int) = m.locals
  room : ∀ x ∈ sl, (x.2.length : Int) ≤ m.stack
  small : ∀ x ∈ sl, x.1.length ≤ 40 ∧ x.2.length ≤ 20
  ty : ∀ x ∈ sl, ∀ t ∈ x.2, t = [78] ∨ knownB L t = true
  ne : sl ≠ []
  first : bStat m.flags = false → ∃ t q st r, sl = (t :: q, st) :: r ∧ FitsP L (ofL X.name) t
theorem stL_of {l : List ClI} {X : ClI} {m : MeI} {sl : List Sta} (hm : l.any misB = false) (hX : ∃ c, findC (ownL ++ l) X.name = some c) (h : metR (ownL ++ l) X m = .ok sl) : StL (ownL ++ l) X m sl := by
  have hb := metC_okb h
  obtain ⟨h1, h2, h3⟩ := metC_ok (E := envM (ownL ++ l) X m) (env_good hm _ _ _ _) (fun _ => by
    obtain ⟨c, hc⟩ := hX
    exact known_of (all_named hm) hc) (fits_h _ _ _ _) h
  have hr : (envM (ownL ++ l) X m).room = min m.stack.toNat 20 := rfl
  refine ⟨fun x hx => ?_, fun x hx => ?_, fun x hx => ?_, fun x hx t ht => (h1 x hx).2.2 t ht, h2, fun hs => ?_⟩
  · have := (h1 x hx).1
    omega
  · have := (h1 x hx).2.1
    rw [hr] at this
    omega
  · have h4 := (h1 x hx).1
    have h5 := (h1 x hx).2.1
    rw [hr] at h5
    omega
  · obtain ⟨t, q, st, r, h4, h5⟩ := h3 hs
    refine ⟨t, q, st, r, h4, ?_⟩
    have : (envM (ownL ++ l) X m).own = ofL X.name := rfl
    rw [this] at h5
    simpa [envM, envOf] using h5
theorem plain_len {p : Bs} (h : Plain p) : p.length ≤ 62 := by
  rcases h with rfl | rfl | ⟨nm, hn, rfl⟩
  · decide
  · decide
  · have := (name_len nm false hn).2
    simp
    omega
theorem known_len {L : List ClI} {t : Bs} (h : knownB L t = true) : t.length ≤ 70 := by
  unfold knownB at h
  rw [Bool.and_eq_true] at h
  obtain ⟨k, hk, p, hp, rfl⟩ := (type_iff t).1 h.1
  have := plain_len hp
  simp
  omega
/-- The own class's type, and what it fits in. -/
theorem own_type {L : List ClI} (hn : ∀ c ∈ L, nameB c.name false = true) {n : Bs} (hf : ∃ c, findC L n = some c) : ofL n = 76 :: n ++ [59] ∧ n.length ≤ 60 := by
  obtain ⟨c, h⟩ := hf
  have hc := findC_some h
  have hv := hn c hc.1
  rw [hc.2] at hv
  refine ⟨?_, (name_len n false hv).2⟩
  have h91 : n.head? ≠ some 91 := by
    intro e
    cases n with
    | nil => cases e
    | cons a r =>
      injection e with e
      subst e
      unfold nameB at hv
      rw [List.all_cons, show okc false 91 = false from by decide] at hv
      simp at hv
  unfold ofL
  rw [if_neg h91]
theorem fits_len {L : List ClI} (hn : ∀ c ∈ L, nameB c.name false = true) (hcl : ∀ s z, s ∈ names L → Rch L s z → z ∈ names L) {n t : Bs} (hf : ∃ c, findC L n = some c) (h : FitsP L (ofL n) t) : t.length ≤ 62 := by
  obtain ⟨h1, h2⟩ := own_type hn hf
  rcases h with rfl | rfl | ⟨h, _⟩ | ⟨_, h⟩
  · exact Nat.zero_le _
  · rw [h1]; simp; omega
  · rw [h1] at h
    injection h with h _
    exact absurd h (by decide)
  · rw [h1] at h
    have he : elemL (76 :: n ++ [59]) = [] := by unfold elemL; rw [if_neg (fun e => by injection e with e; exact absurd e (by decide))]
    rw [refFits_off (fun hh => by rw [he] at hh; exact absurd hh.1 (by decide)), if_neg (fun e => by injection e with e; exact absurd e (by decide))] at h
    obtain ⟨c, hc, hcn⟩ := List.mem_map.1 (hcl _ _ h.1 h.2)
    have hv := name_len _ _ (hn c hc)
    rw [hcn] at hv
    have hne : classL t ≠ [] := fun e => by rw [e] at hv; simp at hv
    rw [classL_of rfl hne]
    simp
    omega
/-- The place that the law takes. -/
theorem turn_at (n : Int) (len : Nat) (h : 0 < len) : ∃ k : Nat, (n.tmod len + len).tmod len = k ∧ k < len ∧ -(len : Int) < n.tmod len ∧ n.tmod len < len := by
  have hl : (0 : Int) < len := by omega
  have h1 := Int.tmod_lt_of_pos n hl
  have h2 : -(len : Int) < n.tmod len := by
    by_cases hn : 0 ≤ n
    · have := Int.tmod_nonneg (len : Int) hn
      omega
    · have h4 := Int.tmod_lt_of_pos (-n) hl
      rw [Int.neg_tmod] at h4
      omega
  have h3 : 0 ≤ n.tmod len + len := by omega
  refine ⟨((n.tmod len + len).tmod len).toNat, ?_, ?_, by omega, by omega⟩
  · have := Int.tmod_nonneg len h3
    omega
  · have := Int.tmod_lt_of_pos (n.tmod len + len) hl
    have := Int.tmod_nonneg len h3
    omega
set_option maxHeartbeats 32000000 in
set_option maxRecDepth 100000 in
theorem CheckStates_walk (v : Value) (l : List ClI) (n : Int) (m : MeI) (ms : List Value) (w : World) (h : Hid (RdX Tru 7 (ClE Tru) w v l)) (hq : ∀ c ∈ l, ClQ c) (hn : I6 n) (hM : Hid (MeE Tru w m ms)) (hMQ : MeQ m) (hcap : ∀ A n cap, ms[5]? = some (.slice A n cap) → n ≤ cap ∧ cap ≤ maxLen) :
    Calls Tryz.prog 3 #[v, .int .i64 n, .agg ms.toArray] w fun e w' => e = .returned (.bool true) ∧ Below w.heap.size w w' := by
  obtain ⟨A, cap, rfl⟩ := h.out.shape
  obtain ⟨b5, b6, b7, rfl, s5, s6, s7⟩ := hM.out
  obtain ⟨B5, e5, rfl⟩ := s5.shape
  obtain ⟨B6, e6, rfl⟩ := s6.shape
  obtain ⟨B7, e7, rfl⟩ := s7.shape
  have hlen := h.out.len
  have HQ := lhid hq
  have HMQ := lhid hMQ
  have HCAP := lhid hcap
  have HN := lhid hn
  have hb0 : Below w.heap.size w (w.alloc (.cells #[.int .i64 m.flags, .string (tx m.name), .string (tx m.desc), .int .i64 m.stack, .int .i64 m.locals, .slice B5 m.code.length e5, .slice B6 m.rows.length e6, .slice B7 m.frames.length e7] 27)) := (Below.refl _ _).alloc (Nat.le_refl _) _
  have hz0 := heap_alloc_new w (.cells #[.int .i64 m.flags, .string (tx m.name), .string (tx m.desc), .int .i64 m.stack, .int .i64 m.locals, .slice B5 m.code.length e5, .slice B6 m.rows.length e6, .slice B7 m.frames.length e7] 27)
  obtain ⟨W, hW⟩ : ∃ x, w.alloc (.cells #[.int .i64 m.flags, .string (tx m.name), .string (tx m.desc), .int .i64 m.stack, .int .i64 m.locals, .slice B5 m.code.length e5, .slice B6 m.rows.length e6, .slice B7 m.frames.length e7] 27) = x := ⟨_, rfl⟩
  rw [hW] at hb0 hz0
  have HW := lhid hW
  have HB0 := lhid hb0
  have HZ0 := lhid hz0
  clear hW hb0 hz0 s5 s6 s7 hq hMQ hcap hn
  show Calls _ _ #[.slice A l.length cap, .int .i64 n, .agg #[.int .i64 m.flags, .string (tx m.name), .string (tx m.desc), .int .i64 m.stack, .int .i64 m.locals, .slice B5 m.code.length e5, .slice B6 m.rows.length e6, .slice B7 m.frames.length e7]] _ _
  go_enter Tryz.func3, Tryz.ntmps3
  go_upto_region 1 with fail
  rw [HW.out]
  go_wp2_with fail
  with_reducible refine (holds8 _).mono ?_
  rintro e w1 ⟨rfl, hb1⟩
  have HB1 := lhid (HB0.out.trans (Below.less hb1 HB0.out.size))
  have HZ1 := lhid ((hb1.block _ (heap_lt HZ0.out)).trans HZ0.out)
  clear hb1
  have z0 := heap_cell (i := 0) HZ1.out rfl
  have z1 := heap_cell (i := 1) HZ1.out rfl
  have z2 := heap_cell (i := 2) HZ1.out rfl
  have z3 := heap_cell (i := 3) HZ1.out rfl
  have z4 := heap_cell (i := 4) HZ1.out rfl
  have z5 := heap_cell (i := 5) HZ1.out rfl
  have z6 := heap_cell (i := 6) HZ1.out rfl
  have z7 := heap_cell (i := 7) HZ1.out rfl
  by_cases hl0 : l.length = 0
  · have d0 : ((l.length : Int) == 0) = true := by rw [hl0]; rfl
    clear hl0
    go_wp2_with fail
    go_ret
    exact ⟨rfl, HB1.out⟩
  have d0 : ((l.length : Int) == 0) = false := by rw [beq_eq_false_iff_ne]; omega
  have hlz : ¬ (l.length : Int) = 0 := by omega
  obtain ⟨k, hk, hkl, hk1, hk2⟩ := turn_at n l.length (by omega)
  have H1 := lhid (h.out.below (keptX_cl Tru) HB1.out)
  have HM1 := lhid (keptX_me Tru _ _ _ _ (fun g _ hl => HB1.out.block g hl) hM.out)
  have HF1 : Hid (RdX Tru 3 (FrE Tru) w1 (.slice B7 m.frames.length e7) m.frames) := lhid (by
    obtain ⟨_, _, _, he, _, _, s7⟩ := HM1.out
    injection he with _ he; injection he with _ he; injection he with _ he; injection he with _ he; injection he with _ he; injection he with _ he; injection he with _ he; injection he with he _
    rw [he]
    exact s7)
  clear hl0
  go_wp2_with fail
  with_reducible refine (light8 Tru (.slice A l.length cap) l _ H1 HF1).mono ?_
  rintro e w2 ⟨r, rfl, hb2⟩
  have HB2 := lhid (HB1.out.trans (Below.less hb2 HB1.out.size))
  have H2 := lhid (H1.out.below (keptX_cl Tru) hb2)
  have HM2 := lhid (keptX_me Tru _ _ _ _ (fun g _ hl => hb2.block g hl) HM1.out)
  have HZ2 := lhid ((hb2.block _ (heap_lt HZ1.out)).trans HZ1.out)
  clear hb2 z0 z1 z2 z3 z4 z5 z6 z7
  cases r with
  | false =>
    go_wp2_with fail
    go_ret
    exact ⟨rfl, HB2.out⟩
  | true =>
  go_wp2_with fail
  with_reducible refine (new_any Tru (.slice A l.length cap) l _ H2 (lhid (short_q HQ.out))).mono ?_
  rintro e w3 ⟨hb3, x, hx, hcase⟩
  have HB3 := lhid (HB2.out.trans (Below.less hb3 HB2.out.size))
  have H3 := lhid (H2.out.below (keptX_cl Tru) hb3)
  have HM3 := lhid (keptX_me Tru _ _ _ _ (fun g _ hl => hb3.block g hl) HM2.out)
  have HZ3 := lhid ((hb3.block _ (heap_lt HZ2.out)).trans HZ2.out)
  have HX := lhid hx
  clear hb3 hx
  rcases hcase with ⟨hx0, rfl⟩ | ⟨rfl, tb, rfl, hT⟩
  · go_wp2_with fail
    go_ret
    exact ⟨rfl, HB3.out⟩
  have HT := lhid hT
  clear hT
  obtain ⟨X, hXk⟩ : ∃ c, l[k]? = some c := ⟨_, List.getElem?_eq_getElem hkl⟩
  have hXm := List.mem_of_getElem? hXk
  obtain ⟨ga, oa, cs, rfl, _, hE, hc⟩ := H3.out.at' hXk
  obtain ⟨x3, x4, x5, x6, rfl, r3, r4, r5, r6⟩ := hE
  obtain ⟨A3, d3, rfl⟩ := r3.shape
  obtain ⟨A4, d4, rfl⟩ := r4.shape
  obtain ⟨A5, d5, rfl⟩ := r5.shape
  obtain ⟨A6, d6, rfl⟩ := r6.shape
  have hEX : ClE Tru w3 X [.int .i64 X.flags, .string (tx X.name), .string (tx X.super), .slice A3 X.ifaces.length d3, .slice A4 X.pool.length d4, .slice A5 X.fields.length d5, .slice A6 X.methods.length d6] := ⟨_, _, _, _, rfl, r3, r4, r5, r6⟩
  have HEX := lhid hEX
  have c0 : w3.cell? ⟨ga, oa + k * 7, none⟩ = some (.int .i64 X.flags) := hc 0 _ rfl
  have c1 : w3.cell? ⟨ga, oa + k * 7 + 1, none⟩ = some (.string (tx X.name)) := hc 1 _ rfl
  have c2 : w3.cell? ⟨ga, oa + k * 7 + 2, none⟩ = some (.string (tx X.super)) := hc 2 _ rfl
  have c3 : w3.cell? ⟨ga, oa + k * 7 + 3, none⟩ = some (.slice A3 X.ifaces.length d3) := hc 3 _ rfl
  have c4 : w3.cell? ⟨ga, oa + k * 7 + 4, none⟩ = some (.slice A4 X.pool.length d4) := hc 4 _ rfl
  have c5 : w3.cell? ⟨ga, oa + k * 7 + 5, none⟩ = some (.slice A5 X.fields.length d5) := hc 5 _ rfl
  have c6 : w3.cell? ⟨ga, oa + k * 7 + 6, none⟩ = some (.slice A6 X.methods.length d6) := hc 6 _ rfl
  have HXM := lhid hXm
  have hw1 : wrap64 (n.tmod l.length) = n.tmod l.length := IntWalk.wrap64_in _ (by omega)
  have hw2 : wrap64 (n.tmod l.length + l.length) = n.tmod l.length + l.length := IntWalk.wrap64_in _ (by omega)
  have k3 : (k : Int) < l.length := by omega
  have HKK := lhid (And.intro hkl (And.intro hk1 hk2))
  have hbc : Below w3.heap.size w3 (w3.alloc (.cells #[.int .i64 X.flags, .string (tx X.name), .string (tx X.super), .slice A3 X.ifaces.length d3, .slice A4 X.pool.length d4, .slice A5 X.fields.length d5, .slice A6 X.methods.length d6] 39)) := (Below.refl _ _).alloc (Nat.le_refl _) _
  have hcx := heap_alloc_new w3 (.cells #[.int .i64 X.flags, .string (tx X.name), .string (tx X.super), .slice A3 X.ifaces.length d3, .slice A4 X.pool.length d4, .slice A5 X.fields.length d5, .slice A6 X.methods.length d6] 39)
  have hszc : (w3.alloc (.cells #[.int .i64 X.flags, .string (tx X.name), .string (tx X.super), .slice A3 X.ifaces.length d3, .slice A4 X.pool.length d4, .slice A5 X.fields.length d5, .slice A6 X.methods.length d6] 39)).heap.size = w3.heap.size + 1 := by simp
  have HBC := lhid hbc
  have HCX := lhid hcx
  have HSZC := lhid hszc
  clear hXk hXm hc r3 r4 r5 r6 hEX hkl hk1 hk2 hbc hcx hszc
  go_upto_region 8 with fail
  go_upto_region 9 with fail
  obtain ⟨W4, hW4⟩ : ∃ x, w3.alloc (.cells #[.int .i64 X.flags, .string (tx X.name), .string (tx X.super), .slice A3 X.ifaces.length d3, .slice A4 X.pool.length d4, .slice A5 X.fields.length d5, .slice A6 X.methods.length d6] 39) = x := ⟨_, rfl⟩
  rw [hW4] at HBC HCX HSZC ⊢
  have HB4 := lhid (HB3.out.trans (Below.less HBC.out HB3.out.size))
  have HZ4 := lhid ((HBC.out.block _ (heap_lt HZ3.out)).trans HZ3.out)
  have HT4 := lhid (HT.out.below HBC.out)
  have HM4 := lhid (keptX_me Tru _ _ _ _ (fun g _ hl => HBC.out.block g hl) HM3.out)
  have HE4 := lhid (keptX_cl Tru _ _ _ _ (fun g _ hl => HBC.out.block g hl) HEX.out)
  have z0 := heap_cell (i := 0) HZ4.out rfl
  have z1 := heap_cell (i := 1) HZ4.out rfl
  have z2 := heap_cell (i := 2) HZ4.out rfl
  have z3 := heap_cell (i := 3) HZ4.out rfl
  have z4 := heap_cell (i := 4) HZ4.out rfl
  have z5 := heap_cell (i := 5) HZ4.out rfl
  have z6 := heap_cell (i := 6) HZ4.out rfl
  have z7 := heap_cell (i := 7) HZ4.out rfl
  have y0 := heap_cell (i := 0) HCX.out rfl
  have y1 := heap_cell (i := 1) HCX.out rfl
  have y2 := heap_cell (i := 2) HCX.out rfl
  have y3 := heap_cell (i := 3) HCX.out rfl
  have y4 := heap_cell (i := 4) HCX.out rfl
  have y5 := heap_cell (i := 5) HCX.out rfl
  have y6 := heap_cell (i := 6) HCX.out rfl
  clear hW4 c0 c1 c2 c3 c4 c5 c6 hw1 hw2 k3
  obtain ⟨hmis, hnod⟩ : l.any misB = false ∧ (names (ownL ++ l)).Nodup := ⟨(newE_zero HX.out).2.1, (newE_zero HX.out).2.2.1⟩
  have HFND : Hid (∃ c, findC (ownL ++ l) X.name = some c) := lhid (names_find (List.mem_map.2 ⟨X, List.mem_append_right _ HXM.out, rfl⟩))
  have HLOK : Hid (LOK (ownL ++ l)) := lhid (lok_of HX.out (short_q HQ.out) (fun c hc f hf => by
    have := ((HQ.out c hc).2.2.2.2.2.1.1 f hf).2.2
    unfold T20 at this
    omega))
  have HMIS := lhid hmis
  obtain ⟨mt, hmt⟩ : ∃ x, metR (ownL ++ l) X m = x := ⟨_, rfl⟩
  have HMT := lhid hmt
  have hcall : Calls Tryz.prog 15 #[.pointer (some ⟨tb, 0, none⟩), .agg #[.int .i64 X.flags, .string (tx X.name), .string (tx X.super), .slice A3 X.ifaces.length d3, .slice A4 X.pool.length d4, .slice A5 X.fields.length d5, .slice A6 X.methods.length d6], .agg #[.int .i64 m.flags, .string (tx m.name), .string (tx m.desc), .int .i64 m.stack, .int .i64 m.locals, .slice B5 m.code.length e5, .slice B6 m.rows.length e6, .slice B7 m.frames.length e7]] W4 (MtOut W4 mt) := by
    rw [← hmt]
    exact method_e HT4.out HLOK.out hmis HE4.out HM4.out (meS_q HMQ.out) HCAP.out (by have := (HQ.out X HXM.out).2.1; exact this) (fun c hc => by
      have := ((HQ.out X HXM.out).2.2.2.2.1.1 c hc)
      have h1 := this.2.2.1
      have h2 := this.2.2.2.2
      unfold T20 at h1 h2
      omega) (fun _ => HFND.out)
  have HCALL := lhid hcall
  clear hmt hmis hnod hcall
  go_wp2_with fail
  with_reducible refine HCALL.out.mono ?_
  rintro e w5 ⟨hb5, hm5⟩
  have HB5 := lhid (HB4.out.trans (Below.less hb5 HB4.out.size))
  have HB45 := lhid hb5
  have HZ5 := lhid ((hb5.block _ (heap_lt HZ4.out)).trans HZ4.out)
  have HC5 := lhid ((hb5.block _ (heap_lt HCX.out)).trans HCX.out)
  have HT5 := lhid (HT4.out.below hb5)
  clear hb5 z0 z1 z2 z3 z4 z5 z6 z7 y0 y1 y2 y3 y4 y5 y6
  cases mt with
  | er v0 =>
    obtain rfl := hm5
    have hv0 : v0 ≠ 0 := metC_er HMT.out
    have d1 : (v0 != 0) = true := by rw [bne_iff_ne]; exact hv0
    clear hv0
    go_wp2_with fail
    go_ret
    exact ⟨rfl, HB5.out⟩
  | ok sl =>
    obtain ⟨st, D, rfl, hst⟩ := hm5
    have hSL := stL_of HMIS.out HFND.out HMT.out
    have HSL := lhid hSL
    have HST := lhid hst
    obtain ⟨x0, hx0⟩ : ∃ x, sl[0]? = some x := ⟨_, List.getElem?_eq_getElem (List.length_pos_iff.2 hSL.ne)⟩
    obtain ⟨g, cp, _, _, _, _, rfl, _⟩ := sts_at hst hx0
    have hslp := List.length_pos_iff.2 hSL.ne
    have hslm : sl.length ≤ maxLen := by
      obtain ⟨_, _, hrow, _⟩ := hst.it
      exact own_max hrow
    unfold maxLen at hslm
    clear hx0 hst hSL
    go_wp2_with fail
    go_loopw [60] (fun i wr => ∃ jj : Nat, i = .int .i64 jj ∧ jj ≤ sl.length ∧ Hid (Below w5.heap.size w5 wr)) (fun i _ => sl.length - (intOf i).toNat)
    case atStart => exact ⟨0, rfl, Nat.zero_le _, lhid (Below.refl _ _)⟩
    case round =>
      obtain ⟨jj, rfl, hjj, HB⟩ := hrel
      have hbs := HB.out.size
      have HBW := lhid (HB5.out.trans (Below.less HB.out HB5.out.size))
      by_cases hlt : jj < sl.length
      · obtain ⟨x, hx⟩ : ∃ x, sl[jj]? = some x := ⟨_, List.getElem?_eq_getElem hlt⟩
        obtain ⟨g', cp', P1, f1, P2, f2, hst2, c0, c1, hl1, hl2⟩ := sts_at (HST.out.kept (w' := wr) fun g _ hs => HB.out.block g hs) hx
        injection hst2 with hst2
        injection hst2 with hst2
        injection hst2 with hst2 _ _
        subst hst2
        have hxm := List.mem_of_getElem? hx
        have hk4 : (jj : Int) < sl.length := by omega
        have HXX := lhid hx
        have HXMM := lhid hxm
        have HL1 := lhid hl1
        have HL2 := lhid hl2
        have hbx : Below wr.heap.size wr (wr.alloc (.cells #[.slice P1 x.1.length f1, .slice P2 x.2.length f2] 44)) := (Below.refl _ _).alloc (Nat.le_refl _) _
        have hzx := heap_alloc_new wr (.cells #[.slice P1 x.1.length f1, .slice P2 x.2.length f2] 44)
        have HBX := lhid hbx
        have HZX := lhid hzx
        clear hx hxm hl1 hl2 hbx hzx
        go_upto_region 15 with fail
        obtain ⟨W6, hW6⟩ : ∃ y, wr.alloc (.cells #[.slice P1 x.1.length f1, .slice P2 x.2.length f2] 44) = y := ⟨_, rfl⟩
        rw [hW6] at HBX HZX ⊢
        obtain ⟨XB, hXB⟩ : ∃ b, wr.heap.size = b := ⟨_, rfl⟩
        rw [hXB] at HZX ⊢
        have HZ6 := lhid ((HBX.out.block _ (by have := heap_lt HZ5.out; omega)).trans ((HB.out.block _ (heap_lt HZ5.out)).trans HZ5.out))
        have HC6 := lhid ((HBX.out.block _ (by have := heap_lt HC5.out; omega)).trans ((HB.out.block _ (heap_lt HC5.out)).trans HC5.out))
        have HT6 := lhid ((HT5.out.below HB.out).below HBX.out)
        have HL61 := lhid (ls_below' HL1.out HBX.out)
        have HL62 := lhid (ls_below' HL2.out HBX.out)
        have HB6 := lhid (HBW.out.trans (Below.less HBX.out HBW.out.size))
        have b0 := heap_cell (i := 0) HZX.out rfl
        have b1 := heap_cell (i := 1) HZX.out rfl
        have q3 := heap_cell (i := 3) HZ6.out rfl
        have q4 := heap_cell (i := 4) HZ6.out rfl
        have dl : ((x.1.length : Int) != m.locals) = false := by rw [HSL.out.loc x HXMM.out]; simp
        have ds : ¬ ((x.2.length : Int) > m.stack) := by have := HSL.out.room x HXMM.out; omega
        have hx20 := (HSL.out.small x HXMM.out).2
        clear hW6 c0 c1 hXB
        go_wp2_with fail
        go_loopw [82] (fun i wr => ∃ qq : Nat, i = .int .i64 qq ∧ qq ≤ x.2.length ∧ Hid (Below W6.heap.size W6 wr)) (fun i _ => x.2.length - (intOf i).toNat)
        case atStart => exact ⟨0, rfl, Nat.zero_le _, lhid (Below.refl _ _)⟩
        case round =>
          obtain ⟨qq, rfl, hqq, HBq⟩ := hrel
          have hbq := HBq.out.size
          by_cases hlt2 : qq < x.2.length
          · obtain ⟨t, ht⟩ : ∃ t, x.2[qq]? = some t := ⟨_, List.getElem?_eq_getElem hlt2⟩
            obtain ⟨gt, ot, hPt, _, ct⟩ := rdX_cell (HL62.out.below (keptX_st _) HBq.out) ht
            subst hPt
            have hk6 : (qq : Int) < x.2.length := by omega
            have hty := HSL.out.ty x HXMM.out t (List.mem_of_getElem? ht)
            have hsmt : t.length ≤ maxLen := by
              rcases hty with rfl | hkn
              · decide
              · have := known_len hkn
                unfold maxLen
                omega
            clear ht b0 b1 q3 q4 dl ds
            by_cases htn : t = [78]
            · have dN : ((tx t).toList == [78]) = true := by rw [tx_toL, htn]; rfl
              clear hty htn
              go_wp2_with fail
              go_roundw
              case rel => first | exact ⟨qq + 1, by go_num, by omega, HBq⟩ | exact ⟨_, _, _, .int .i64 ((qq : Int) + 1), ⟨qq + 1, by go_num, by omega, HBq⟩, rfl, rfl, rfl, rfl⟩ | ((repeat apply Exists.intro); exact ⟨⟨qq + 1, by go_num, by omega, HBq⟩, rfl⟩)
              case measure => simp [intOf]; omega
            · have dN : ((tx t).toList == [78]) = false := by rw [tx_toL, beq_eq_false_iff_ne]; exact htn
              have hkn : knownB (ownL ++ l) t = true := hty.resolve_left htn
              have HKN := lhid hkn
              have HTq := lhid (HT6.out.below HBq.out)
              clear hty htn hkn
              go_wp2_with fail
              with_reducible refine (known_ex _ tb (ownL ++ l) t wr HTq hsmt).mono ?_
              rintro e w7 ⟨rfl, hb7⟩
              rw [HKN.out]
              have HB7 := lhid (HBq.out.trans (Below.less hb7 HBq.out.size))
              clear hb7 ct
              go_wp2_with fail
              go_roundw
              case rel => first | exact ⟨qq + 1, by go_num, by omega, HB7⟩ | exact ⟨_, _, _, .int .i64 ((qq : Int) + 1), ⟨qq + 1, by go_num, by omega, HB7⟩, rfl, rfl, rfl, rfl⟩ | ((repeat apply Exists.intro); exact ⟨⟨qq + 1, by go_num, by omega, HB7⟩, rfl⟩)
              case measure => simp [intOf]; omega
          · have hk6 : ¬ (qq : Int) < x.2.length := by omega
            have HB8 := lhid (HB6.out.trans (Below.less HBq.out HB6.out.size))
            have HBF := lhid (HB.out.trans (Below.less (HBX.out.trans (Below.less HBq.out HBX.out.size)) hbs))
            have HT8 := lhid (HT6.out.below HBq.out)
            have HZ8 := lhid ((HBq.out.block _ (heap_lt HZ6.out)).trans HZ6.out)
            have HC8 := lhid ((HBq.out.block _ (heap_lt HC6.out)).trans HC6.out)
            have HX8 := lhid ((HBq.out.block _ (heap_lt HZX.out)).trans HZX.out)
            have HL8 := lhid (HL61.out.below (keptX_st _) HBq.out)
            have g0 := heap_cell (i := 0) HZ8.out rfl
            clear b0 b1 q3 q4 dl ds
            go_upto_region 23 with fail
            go_cut [115] from 95 to 115 (fun t115 wx => t115 = .bool false ∧ Hid (Below wr.heap.size wr wx))
            case first =>
              have hg : ∀ w' : World, Below wr.heap.size wr w' → w'.cell? ⟨w.heap.size, 0, none⟩ = some (.int .i64 m.flags) ∧ w'.cell? ⟨w3.heap.size, 1, none⟩ = some (.string (tx X.name)) ∧ w'.cell? ⟨XB, 0, none⟩ = some (.slice P1 x.1.length f1) := fun w' hb =>
                ⟨heap_cell ((hb.block _ (heap_lt HZ8.out)).trans HZ8.out) rfl, heap_cell ((hb.block _ (heap_lt HC8.out)).trans HC8.out) rfl, heap_cell ((hb.block _ (heap_lt HX8.out)).trans HX8.out) rfl⟩
              have HG := lhid hg
              clear hg g0
              by_cases hj : jj = 0
              · have d96 : ((jj : Int) == 0) = true := by rw [hj]; rfl
                have HJ := lhid hj
                clear hj
                cases hsb : bStat m.flags with
                | true =>
                  have d100 : (bits .and .i64 m.flags 8 == 0) = false := by
                    have := flag_stat m.flags
                    rw [hsb] at this
                    rw [beq_eq_false_iff_ne]
                    exact bne_iff_ne.1 this
                  clear hsb
                  refine wp_region_quiet_c (C := fun w' => Below wr.heap.size wr w') (by kernel_rfl) (by kernel_rfl) (Below.drew' (Below.refl _ _)) ?_
                  repeat (first
                    | go_big_quiet_skip
                    | (go_big_quiet_want
                       first
                         | (refine quiet_of_run (v := ?_) (fun w' hw' => ?_) ?_
                            rotate_left
                            · (obtain ⟨q0, q1, q2⟩ := HG.out w' hw'; go_simp; try with_reducible rfl)
                            go_big_quiet_on
                            try simp only [Act.put, List.setIfInBounds_toArray, List.set_cons_zero, List.set_cons_succ])))
                  refine wpQuiet_nil ?_
                  intro wx hwx
                  go_wp2_with fail
                  go_meet
                  exact ⟨rfl, lhid hwx⟩
                | false =>
                  have d100 : (bits .and .i64 m.flags 8 == 0) = true := by
                    have := flag_stat m.flags
                    rw [hsb] at this
                    rw [beq_iff_eq]
                    simpa using this
                  obtain ⟨t, q, st, rr, hsl, hft⟩ := HSL.out.first hsb
                  have hx1 : x.1 = t :: q := by
                    have h0 := HXX.out
                    rw [HJ.out, hsl] at h0
                    simp at h0
                    rw [← h0]
                  have ht0 : x.1[0]? = some t := by rw [hx1]; rfl
                  obtain ⟨gt, ot, hP1, _, ct⟩ := rdX_cell HL8.out ht0
                  subst hP1
                  have hx1l : (0 : Int) < x.1.length := by rw [hx1]; simp
                  have hx1n : 0 < x.1.length := by rw [hx1]; simp
                  have hot := own_type (all_named HMIS.out) HFND.out
                  have hcat : ⟨#[76]⟩ ++ tx X.name ++ ⟨#[59]⟩ = tx (ofL X.name) := by
                    rw [of_app, tx_list, hot.1]
                    rfl
                  have hlt : t.length ≤ 62 := fits_len (all_named HMIS.out) HLOK.out.closed HFND.out hft
                  have hsn : (tx X.name).size = X.name.length := tx_size _
                  have b1 : ¬ 9223372036854775807 < 1 + (tx X.name).size := by omega
                  have b2 : ¬ 9223372036854775807 < 1 + (tx X.name).size + 1 := by omega
                  have HCAT := lhid hcat
                  have HFT := lhid hft
                  have HLT2 : Hid (t.length ≤ 281474976710656) := lhid (by omega)
                  have HLO : Hid ((ofL X.name).length ≤ 281474976710656) := lhid (by rw [hot.1]; have := hot.2; simp; omega)
                  have hgc : ∀ w' : World, Below wr.heap.size wr w' → w'.cell? ⟨w.heap.size, 0, none⟩ = some (.int .i64 m.flags) ∧ w'.cell? ⟨w3.heap.size, 1, none⟩ = some (.string (tx X.name)) ∧ w'.cell? ⟨XB, 0, none⟩ = some (.slice (some ⟨gt, ot, none⟩) x.1.length f1) ∧ w'.cell? ⟨gt, ot, none⟩ = some (.string (tx t)) := fun w' hb => by
                    obtain ⟨q0, q1, q2⟩ := HG.out w' hb
                    exact ⟨q0, q1, q2, (hb.cell (cell_lt ct)).trans ct⟩
                  have HGC := lhid hgc
                  clear hsb hsl hft hx1 ht0 ct hot hcat hlt hsn hgc
                  refine wp_region_quiet_c (C := fun w' => Below wr.heap.size wr w') (by kernel_rfl) (by kernel_rfl) (Below.drew' (Below.refl _ _)) ?_
                  repeat (first
                    | go_big_quiet_skip
                    | (go_big_quiet_want
                       first
                         | (refine quiet_of_run (v := ?_) (fun w' hw' => ?_) ?_
                            rotate_left
                            · (obtain ⟨q0, q1, q2, q5⟩ := HGC.out w' hw'; go_simp; try with_reducible rfl)
                            go_big_quiet_on
                            try simp only [Act.put, List.setIfInBounds_toArray, List.set_cons_zero, List.set_cons_succ])
                            | (refine quiet_of_call (v := .bool true) (f := 17) (args := #[.pointer (some ⟨tb, 0, none⟩), .string (⟨#[76]⟩ ++ tx X.name ++ ⟨#[59]⟩), .string (tx t)]) (fun w' hw' => ?_) (fun w' hw' => ?_) ?_
                               · (go_simp; try with_reducible rfl)
                               · (rw [HCAT.out]
                                  refine (fits_any _ tb (ownL ++ l) (ofL X.name) t w' (lhid (HT8.out.below hw')) HLO.out HLT2.out).mono ?_
                                  rintro e w9 ⟨r9, rfl, hr9, hb9⟩
                                  have : r9 = true := hr9.2 HFT.out
                                  subst this
                                  exact ⟨rfl, hw'.trans (Below.less hb9 hw'.size)⟩)
                               go_big_quiet_on
                               try simp only [Act.put, List.setIfInBounds_toArray, List.set_cons_zero, List.set_cons_succ])))
                  refine wpQuiet_nil ?_
                  intro wx hwx
                  go_wp2_with fail
                  go_meet
                  exact ⟨rfl, lhid hwx⟩
              · have d96 : ((jj : Int) == 0) = false := by rw [beq_eq_false_iff_ne]; omega
                clear hj
                refine wp_region_quiet_c (C := fun w' => Below wr.heap.size wr w') (by kernel_rfl) (by kernel_rfl) (Below.drew' (Below.refl _ _)) ?_
                repeat (first
                  | go_big_quiet_skip
                  | (go_big_quiet_want
                     first
                       | (refine quiet_of_run (v := ?_) (fun w' hw' => ?_) ?_
                          rotate_left
                          · (obtain ⟨q0, q1, q2⟩ := HG.out w' hw'; go_simp; try with_reducible rfl)
                          go_big_quiet_on
                          try simp only [Act.put, List.setIfInBounds_toArray, List.set_cons_zero, List.set_cons_succ])))
                refine wpQuiet_nil ?_
                intro wx hwx
                go_wp2_with fail
                go_meet
                exact ⟨rfl, lhid hwx⟩
            case rest =>
              obtain ⟨rfl, HBW2⟩ := hcut
              have HBR := lhid (HBF.out.trans (Below.less HBW2.out HBF.out.size))
              go_wp2_with fail
              go_roundw
              case rel => exact ⟨_, _, _, _, .int .i64 ((jj : Int) + 1), ⟨jj + 1, by go_num, by omega⟩, rfl, rfl, rfl, rfl, rfl⟩
              case measure => simp [intOf]; omega
      · have hk4 : ¬ (jj : Int) < sl.length := by omega
        have hk5 : (sl.length : Int) > 0 := by omega
        go_wp2_with fail
        go_ret
        exact ⟨rfl, HBW.out⟩
end Go.Proofs.YtpdnonlelocfbaaGreatDoor
