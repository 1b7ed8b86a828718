/- Parents and interfaces: mayBeBelow, areInterfaces, hasKin. -/
import Derived.Test.YtkphpihggbbpkaaKinTree
namespace Go.Proofs.Ytkphpihggbbpkaa
open Go.RowKit Go Go.Maps
set_option linter.unusedVariables false

abbrev nString : Bs := [83, 116, 114, 105, 110, 103]
abbrev nSys : Bs := [83, 121, 115]
abbrev nObject : Bs := [79, 98, 106, 101, 99, 116]
/-- May c have a class of that name as its parent? -/
def mayB (L : List ClI) (c : ClI) (s : Bs) : Bool :=
  match findC L s with
  | none => false
  | some y => !ifc y && !decide (s = nString) && !decide (s = nSys) && (decide (s = nObject) || !ifc c)
theorem tx_test (s n : Bs) (r : Bool) (h : Hid (decide (s = n) = r)) : ((tx s).toList == n) = r := by
  rw [tx_toL, ← h.out, Bool.eq_iff_iff]
  simp
set_option maxHeartbeats 8000000 in
set_option maxRecDepth 100000 in
theorem mayBeBelow_any (Q : Nat → Prop) (L : List ClI) (tb cb ab : Nat) (v0 : Value) (c : ClI) (a p b d : Value) (s : Bs) (w : World) (hT : Hid (Tr w tb cb ab v0)) (hC : Hid (CM Q w cb L)) (hs : s.length ≤ maxLen) :
    Calls Try.prog 38 #[.pointer (some ⟨tb, 0, none⟩), .agg #[.int .i64 c.flags, .string (tx c.name), .string (tx c.super), a, p, b, d], .string (tx s)] w fun e w' => e = .returned (.bool (mayB L c s)) ∧ Below w.heap.size w w' := by
  obtain ⟨f, hm, hfs⟩ := hC.out
  have HM := lhid hm
  have hB := (Below.refl w.heap.size w).alloc (Nat.le_refl _) (.cells #[.int .i64 c.flags, .string (tx c.name), .string (tx c.super), a, p, b, d] 35)
  have t1 := heap_cell (i := 1) (hT.out.below hB) rfl
  clear hm hB
  cases hf : findC L s with
  | none =>
    have hf1 := (hfs s).1 hf
    have HF : Hid (mayB L c s = false) := lhid (by unfold mayB; rw [hf])
    have HF1 := lhid hf1
    clear hf hf1 hfs
    go_enter Try.func38, Try.ntmps38
    go_wp2_with (at_lookup; refine wpList_lookok_mv _ rfl _ _ 58 rfl _ und_cm _ (zero_cl _) cb _ f rfl (HM.out.alloc _) s rfl hs (.agg #[.int .i64 0, .string ⟨#[]⟩, .string ⟨#[]⟩, .slice none 0 0, .slice none 0 0, .slice none 0 0, .slice none 0 0]) (by rw [HF1.out]; rfl) false (by rw [HF1.out]; rfl) ?_)
    go_wp2_with fail
    go_ret
    exact ⟨by rw [HF.out]; rfl, ((Below.refl _ _).alloc (Nat.le_refl _) _).alloc (by simp) _⟩
  | some y =>
    obtain ⟨u, hfu, cy, rfl, a', p', b', d', rfl, r1, r2, r3, r4⟩ := (hfs s).2 y hf
    obtain ⟨ya, da, rfl⟩ := r1.shape
    obtain ⟨yp, dp, rfl⟩ := r2.shape
    obtain ⟨yb, db, rfl⟩ := r3.shape
    obtain ⟨yd, dd, rfl⟩ := r4.shape
    obtain ⟨k1, hk1⟩ : ∃ k, ifc y = k := ⟨_, rfl⟩
    obtain ⟨k2, hk2⟩ : ∃ k, decide (s = nString) = k := ⟨_, rfl⟩
    obtain ⟨k3, hk3⟩ : ∃ k, decide (s = nSys) = k := ⟨_, rfl⟩
    obtain ⟨k4, hk4⟩ : ∃ k, decide (s = nObject) = k := ⟨_, rfl⟩
    obtain ⟨k5, hk5⟩ : ∃ k, ifc c = k := ⟨_, rfl⟩
    have HF : Hid (mayB L c s = (!k1 && !k2 && !k3 && (k4 || !k5))) := lhid (by unfold mayB; rw [hf]; simp only [hk1, hk2, hk3, hk4, hk5])
    have HF1 := lhid hfu
    have K1 := lhid hk1
    have K5 := lhid hk5
    have e2 := tx_test s nString k2 (lhid hk2)
    have e3 := tx_test s nSys k3 (lhid hk3)
    have e4 := tx_test s nObject k4 (lhid hk4)
    clear hf hfu hfs hk1 hk2 hk3 hk4 hk5 r1 r2 r3 r4
    go_enter Try.func38, Try.ntmps38
    go_wp2_with (at_lookup; refine wpList_lookok_mv _ rfl _ _ 58 rfl _ und_cm _ (zero_cl _) cb _ f rfl (HM.out.alloc _) s rfl hs (.agg #[.int .i64 y.flags, .string (tx y.name), .string (tx y.super), .slice ya y.ifaces.length da, .slice yp y.pool.length dp, .slice yb y.fields.length db, .slice yd y.methods.length dd]) (by rw [HF1.out]; rfl) true (by rw [HF1.out]; rfl) ?_)
    go_wp2_with fail
    with_reducible refine (isInterface_any y _ _ _ _ _).mono ?_
    rintro e w1 ⟨rfl, hb1⟩
    have HB0 : Hid (Below w.heap.size w w1) := lhid ((((Below.refl w.heap.size w).alloc (Nat.le_refl _) _).alloc (by simp) _).trans (Below.less hb1 (by simp; omega)))
    have HX0 := lhid ((hb1.block w.heap.size (by simp; omega)).trans ((Below.heap_alloc _ _ _ (by simp)).trans (heap_alloc_new w (.cells #[.int .i64 c.flags, .string (tx c.name), .string (tx c.super), a, p, b, d] 35))))
    clear hb1
    rw [K1.out]
    have c0 := heap_cell (i := 0) HX0.out rfl
    have c1 := heap_cell (i := 1) HX0.out rfl
    have c2 := heap_cell (i := 2) HX0.out rfl
    have c3 := heap_cell (i := 3) HX0.out rfl
    have c4 := heap_cell (i := 4) HX0.out rfl
    have c5 := heap_cell (i := 5) HX0.out rfl
    have c6 := heap_cell (i := 6) HX0.out rfl
    clear t1
    cases k1 <;> cases k2 <;> cases k3 <;> cases k4
    all_goals go_wp2_with fail
    all_goals first
      | (go_ret; exact ⟨by rw [HF.out]; rfl, HB0.out⟩)
      | (with_reducible refine (isInterface_any c _ _ _ _ _).mono ?_
         rintro e w2 ⟨rfl, hb2⟩
         rw [K5.out]
         have HB2 := lhid (HB0.out.trans (Below.less hb2 HB0.out.size))
         clear hb2
         cases k5
         all_goals go_wp2_with fail
         all_goals go_ret
         all_goals exact ⟨by rw [HF.out]; rfl, HB2.out⟩)
def zI : ClI := ⟨0, [], [], [], [], [], []⟩
theorem ifc_zero : ifc zI = false := by decide
def isI (L : List ClI) (s : Bs) : Bool := match findC L s with | none => false | some y => ifc y
def AreI (L : List ClI) (ns : List Bs) : Prop := ns.Nodup ∧ ∀ n ∈ ns, isI L n = true
theorem isInterface_zero (w : World) :
    Calls Try.prog 59 #[.agg #[.int .i64 0, .string ⟨#[]⟩, .string ⟨#[]⟩, .slice none 0 0, .slice none 0 0, .slice none 0 0, .slice none 0 0]] w fun e w' => e = .returned (.bool false) ∧ Below w.heap.size w w' := by
  have := isInterface_any zI (.slice none 0 0) (.slice none 0 0) (.slice none 0 0) (.slice none 0 0) w
  rw [ifc_zero] at this
  exact this
theorem take_nextS {l : List Bs} {k : Nat} {x : Bs} (h : l[k]? = some x) : l.take (k + 1) = l.take k ++ [x] := by rw [List.take_add_one, h]; rfl
set_option maxHeartbeats 8000000 in
set_option maxRecDepth 100000 in
theorem areInterfaces_any (Q P : Nat → Prop) (L : List ClI) (tb cb ab : Nat) (v0 : Value) (v : Value) (ns : List Bs) (w : World) (hT : Hid (Tr w tb cb ab v0)) (hC : Hid (CM Q w cb L)) (h : Hid (RdX P 1 StE w v ns)) (hs : Hid (∀ n ∈ ns, n.length ≤ maxLen)) :
    Calls Try.prog 39 #[.pointer (some ⟨tb, 0, none⟩), v] w fun e w' => ∃ r : Bool, e = .returned (.bool r) ∧ (r = true ↔ AreI L ns) ∧ Below w.heap.size w w' := by
  obtain ⟨A, cap, rfl⟩ := h.out.shape
  have hlen := h.out.len
  have HS0 := lhid (sv_made w)
  have HB0 : Hid (Below w.heap.size w (w.alloc (.map #[] 0))) := lhid ((Below.refl _ _).alloc (Nat.le_refl _) _)
  have hmm := @run_makeMap Try.prog
  go_enter Try.func39, Try.ntmps39
  go_wp2_with fail
  go_loopw [11] (fun i wr => ∃ (kk : Nat) (S : List Bs), i = .int .i64 kk ∧ kk ≤ ns.length ∧ Hid (SV wr w.heap.size S) ∧ S.length = kk ∧ Hid (∀ x, x ∈ S ↔ x ∈ ns.take kk) ∧ Hid (AreI L (ns.take kk)) ∧ Hid (Below w.heap.size w wr)) (fun i _ => ns.length - (intOf i).toNat)
  case atStart => exact ⟨0, [], rfl, Nat.zero_le _, HS0, rfl, lhid (by simp), lhid ⟨by simp, by simp⟩, HB0⟩
  case round =>
    obtain ⟨kk, S, rfl, hkk, HS, hSl, HI, HA, HB⟩ := hrel
    clear hmm
    by_cases hlt : kk < ns.length
    · obtain ⟨x, hx⟩ : ∃ x, ns[kk]? = some x := ⟨_, List.getElem?_eq_getElem hlt⟩
      have HX := lhid hx
      have HRd := lhid (h.out.below (keptX_st P) HB.out)
      obtain ⟨ga, oa, cc, rfl, _, hE, hc⟩ := HRd.out.at' hx
      have c0 : wr.cell? ⟨ga, oa + kk, none⟩ = some (.string (tx x)) := by
        have := hc 0 (.string (tx x)) (by rw [show cc = [.string (tx x)] from hE]; rfl)
        rwa [Nat.mul_one] at this
      have k3 : (kk : Int) < ns.length := by omega
      have hxl := hs.out x (List.mem_of_getElem? hx)
      have HTN := lhid (take_nextS hx)
      have hbs := HB.out.size
      clear hx hE hc
      go_wp2_with fail
      with_reducible refine (has_any w.heap.size S x _ HS hxl).mono ?_
      rintro e w1 ⟨rfl, hb1⟩
      have HB1 := lhid (HB.out.trans (Below.less hb1 hbs))
      have HS1 := lhid (HS.out.below hb1)
      have hb1s := hb1.size
      clear hb1
      by_cases hm : x ∈ S
      · have HM := lhid ((HI.out x).1 hm)
        rw [decide_eq_true hm]
        clear hm
        go_wp2_with fail
        go_ret
        refine ⟨false, rfl, ?_, HB1.out⟩
        constructor
        · intro e; cases e
        · rintro ⟨h1, _⟩
          have h2 : (ns.take (kk + 1)).Nodup := h1.sublist (List.take_sublist _ _)
          rw [HTN.out, List.nodup_append] at h2
          exact absurd rfl (h2.2.2 _ HM.out x (by simp))
      · have HNM := lhid hm
        rw [decide_eq_false hm]
        clear hm
        have t1 := heap_cell (i := 1) (hT.out.below HB1.out) rfl
        obtain ⟨f, hmv, hfs⟩ := hC.out.below HB1.out
        have HMV := lhid hmv
        cases hf : findC L x with
        | none =>
          have HF1 := lhid ((hfs x).1 hf)
          have HR : Hid (isI L x = false) := lhid (by unfold isI; rw [hf])
          clear hf hfs hmv
          have hlk : (Instr.lookup 58 (.map (some cb)) (.string (tx x)) false).run Try.prog w1 = .ok (.agg #[.int .i64 0, .string ⟨#[]⟩, .string ⟨#[]⟩, .slice none 0 0, .slice none 0 0, .slice none 0 0, .slice none 0 0]) w1 := by
            have := (HMV.out.look und_cm (zero_cl w1) hxl).1
            rw [HF1.out] at this
            exact this
          go_wp2_with fail
          clear hlk
          with_reducible refine (isInterface_zero _).mono ?_
          rintro e w2 ⟨rfl, hb2⟩
          have HB2 := lhid (HB1.out.trans (Below.less hb2 (by omega)))
          clear hb2 t1
          go_wp2_with fail
          go_ret
          exact ⟨false, rfl, ⟨fun e => (by cases e), fun h1 => by have := h1.2 x (List.mem_of_getElem? HX.out); rw [HR.out] at this; cases this⟩, HB2.out⟩
        | some y =>
          obtain ⟨u, hfu, cy, rfl, a', p', b', d', rfl, _⟩ := (hfs x).2 y hf
          have HF1 := lhid hfu
          obtain ⟨r, hr⟩ : ∃ r, ifc y = r := ⟨_, rfl⟩
          have HR : Hid (isI L x = r) := lhid (by unfold isI; rw [hf]; exact hr)
          have HRY := lhid hr
          clear hf hfs hmv hfu hr
          have hlk : (Instr.lookup 58 (.map (some cb)) (.string (tx x)) false).run Try.prog w1 = .ok (.agg #[.int .i64 y.flags, .string (tx y.name), .string (tx y.super), a', p', b', d']) w1 := by
            have := (HMV.out.look und_cm (zero_cl w1) hxl).1
            rw [HF1.out] at this
            exact this
          go_wp2_with fail
          clear hlk
          with_reducible refine (isInterface_any y _ _ _ _ _).mono ?_
          rintro e w2 ⟨rfl, hb2⟩
          rw [HRY.out]
          have HB2 := lhid (HB1.out.trans (Below.less hb2 (by omega)))
          have HS2 := lhid (HS1.out.below hb2)
          have hb2s := hb2.size
          clear hb2 t1
          cases r with
          | false =>
            go_wp2_with fail
            go_ret
            exact ⟨false, rfl, ⟨fun e => (by cases e), fun h1 => by have := h1.2 x (List.mem_of_getElem? HX.out); rw [HR.out] at this; cases this⟩, HB2.out⟩
          | true =>
            go_wp2_with fail
            with_reducible refine (add_any w.heap.size S x _ HS2 hxl HNM (by unfold maxLen; omega)).mono ?_
            rintro e w3 ⟨rfl, hs3, hc3⟩
            have HS3 := lhid hs3
            have HB3 := lhid (HB2.out.trans (hc3.to (by omega) (fun k hk => by omega)))
            clear hs3 hc3
            go_wp2_with fail
            go_roundw
            case rel => exact ⟨kk + 1, x :: S, by go_num, by omega, HS3, by simp [hSl], lhid (fun z => by rw [HTN.out, List.mem_cons, HI.out z, List.mem_append, List.mem_singleton, or_comm]), lhid (by
              rw [HTN.out]
              refine ⟨?_, fun n hn => ?_⟩
              · rw [List.nodup_append]
                refine ⟨HA.out.1, by simp, fun a ha b hb e => ?_⟩
                simp at hb
                subst hb
                subst e
                exact HNM.out ((HI.out a).2 ha)
              · rcases List.mem_append.1 hn with hn | hn
                · exact HA.out.2 n hn
                · simp at hn
                  rw [hn]
                  exact HR.out), HB3⟩
            case measure => simp [intOf]; omega
    · have k3 : ¬ (kk : Int) < ns.length := by omega
      have e : kk = ns.length := by omega
      subst e
      rw [List.take_length] at HA
      go_wp2_with fail
      go_ret
      first
        | exact .inr ⟨rfl, HA.out, HB.out⟩
        | exact ⟨true, rfl, ⟨fun _ => HA.out, fun _ => rfl⟩, HB.out⟩
set_option maxHeartbeats 8000000 in
set_option maxRecDepth 100000 in
theorem hasKin_any (Q P : Nat → Prop) (L : List ClI) (tb cb ab : Nat) (v0 : Value) (c : ClI) (a p b d : Value) (w : World) (hT : Hid (Tr w tb cb ab v0)) (hC : Hid (CM Q w cb L)) (h : Hid (RdX P 1 StE w a c.ifaces)) (hs : c.super.length ≤ maxLen) (hi : Hid (∀ n ∈ c.ifaces, n.length ≤ maxLen)) :
    Calls Try.prog 22 #[.pointer (some ⟨tb, 0, none⟩), .agg #[.int .i64 c.flags, .string (tx c.name), .string (tx c.super), a, p, b, d]] w fun e w' => ∃ r : Bool, e = .returned (.bool r) ∧ (r = true ↔ mayB L c c.super = true ∧ AreI L c.ifaces) ∧ Below w.heap.size w w' := by
  have hB := (Below.refl w.heap.size w).alloc (Nat.le_refl _) (.cells #[.int .i64 c.flags, .string (tx c.name), .string (tx c.super), a, p, b, d] 35)
  have HB := lhid hB
  have HT1 := lhid (hT.out.below hB)
  have HC1 := lhid (hC.out.below hB)
  have HX0 := lhid (heap_alloc_new w (.cells #[.int .i64 c.flags, .string (tx c.name), .string (tx c.super), a, p, b, d] 35))
  clear hB
  go_enter Try.func22, Try.ntmps22
  go_wp2_with fail
  with_reducible refine (mayBeBelow_any Q L tb cb ab v0 c a p b d c.super _ HT1 HC1 hs).mono ?_
  rintro e w1 ⟨rfl, hb1⟩
  have HB1 := lhid (HB.out.trans (Below.less hb1 HB.out.size))
  have HX1 := lhid ((hb1.block _ (heap_lt HX0.out)).trans HX0.out)
  have HT2 := lhid (HT1.out.below hb1)
  have HC2 := lhid (HC1.out.below hb1)
  have c3 := heap_cell (i := 3) HX1.out rfl
  clear hb1
  cases hm : mayB L c c.super with
  | false =>
    have HM := lhid hm
    clear hm
    go_wp2_with fail
    go_ret
    first
      | exact ⟨false, rfl, ⟨fun e => (by cases e), fun h => (by have h2 := h.1; rw [HM.out] at h2; cases h2)⟩, HB1.out⟩
      | exact .inl ⟨rfl, fun h => (by rw [HM.out] at h; cases h), HB1.out⟩
  | true =>
    have HM := lhid hm
    clear hm
    go_wp2_with fail
    with_reducible refine (areInterfaces_any Q P L tb cb ab v0 a c.ifaces _ HT2 HC2 (lhid (h.out.below (keptX_st P) HB1.out)) hi).mono ?_
    rintro e w2 ⟨r, rfl, hr, hb2⟩
    have HB2 := lhid (HB1.out.trans (Below.less hb2 HB1.out.size))
    have HR := lhid hr
    clear hb2 hr
    cases r with
    | false =>
      go_wp2_with fail
      go_ret
      refine ⟨false, rfl, ⟨fun e => (by cases e), fun h => ?_⟩, HB2.out⟩
      have := HR.out.2 h.2
      cases this
    | true =>
      go_wp2_with fail
      go_ret
      exact ⟨true, rfl, ⟨fun _ => ⟨HM.out, HR.out.1 (by simp)⟩, fun _ => rfl⟩, HB2.out⟩
end Go.Proofs.Ytkphpihggbbpkaa
