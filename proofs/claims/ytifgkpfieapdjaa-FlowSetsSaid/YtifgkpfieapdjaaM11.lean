/- Texts of this claim, joined: FlwSet, FlwDfs. -/
import Derived.Test.YtifgkpfieapdjaaJFlwReads
import Derived.Test.YtifgkpfieapdjaaM10
/- Is each register written ahead of all that reads it: the program's Set. -/
namespace Go.Proofs.Ytifgkpfieapdjaa
open Go.RowKit Go
set_option linter.unusedVariables false
set_option linter.unusedSimpArgs false

/-- A register of these is read where it may not be written yet. -/
def RdUn (f : FuI) (r : Nat) : Prop := ((r : Nat) : Int) ∉ f.params ∧ ∃ i x, f.code[i]? = some x ∧ ((r : Nat) : Int) ∈ usesI x ∧ UnR f ((r : Nat) : Int) i
def SetN (f : FuI) : Prop := chkN f = 0 ∧ ∀ r : Nat, r < f.regs.length → ¬ RdUn f r
def SetOut (f : FuI) (w : World) (e : Ending) (w' : World) : Prop := ∃ z : Bool, e = .returned (.bool z) ∧ (z = true ↔ SetN f) ∧ Below w.heap.size w w'
theorem chk_sizes {f : FuI} (h : chkN f = 0) : f.regs.length ≤ 20000 ∧ f.code.length ≤ 20000 ∧ ∀ r ∈ f.params, 0 ≤ r ∧ r < f.regs.length := by
  unfold chkN checkB at h
  cases h1 : (regsB f && codeB f && rowsB f) with
  | false => rw [h1] at h; simp at h
  | true =>
    simp only [Bool.and_eq_true] at h1
    have h2 := h1.1.1
    have h3 := h1.1.2
    unfold regsB at h2
    unfold codeB at h3
    simp only [Bool.and_eq_true, decide_eq_true_eq, List.all_eq_true, List.mem_range] at h2 h3
    refine ⟨h2.1.1.1.1, h3.1.1.2, fun r hr => ?_⟩
    obtain ⟨i, hi, rfl⟩ := List.getElem_of_mem hr
    have h4 := h2.2 i hi
    unfold parB at h4
    rw [List.getElem?_eq_getElem hi] at h4
    simp only [inB, Bool.and_eq_true, decide_eq_true_eq] at h4
    exact h4.1
theorem webOf_n {P : Nat → Prop} (f : FuI) (n : Nat) (hn : f.code.length = n) (fa fb fd fe : Value) (w : World) (h : Hid (FuV P w f fa fb fd fe)) (hcl : Hid (f.code.length * 96 ≤ 140737488355328)) :
    Calls Try.prog 29 #[fuL fa fb f.ret fd fe] w fun e w' => ∃ gn gs : Nat, e = .returned (.agg #[fa, fb, .int .i64 f.ret, fd, fe, .slice (some ⟨gn, 0, none⟩) n n, .slice (some ⟨gs, 0, none⟩) n n]) ∧ w.heap.size ≤ gn ∧ w.heap.size ≤ gs ∧ LstB w' gn n w.heap.size (fun i => nextL f i) n ∧ NumB w' gs n (strN f.rows) n ∧ Below w.heap.size w w' := by
  subst hn
  exact webOf_any f fa fb fd fe w h hcl
theorem reads_n {P : Nat → Prop} (f : FuI) (n R : Nat) (hn : f.code.length = n) (hR : f.regs.length = R) (fa fb fd fe : Value) (gn gs F : Nat) (w : World) (h : Hid (FuV P w f fa fb fd fe)) (hcl : Hid ((f.code.length + 1) * 1024 ≤ 140737488355328)) (hrn : Hid (RwN f.rows)) (hrl : Hid (f.rows.length * 8 ≤ 140737488355328)) (hLn : Hid (LstB w gn n 0 (fun i => nextL f i) n)) (hSn : Hid (NumB w gs n (strN f.rows) n))
    (hF : Hid (F < R)) (hl : Hid (R ≤ 1099511627776)) (hp : Hid (∀ r ∈ f.params, I64 r)) (hI : Hid (∀ x ∈ f.code, I64 (defI x) ∧ (∀ u ∈ usesI x, I64 u) ∧ x.args.length * 8 ≤ 140737488355328 ∧ (usesI x).length * 8 ≤ 140737488355328)) :
    Calls Try.prog 30 #[.agg #[fa, fb, .int .i64 f.ret, fd, fe, .slice (some ⟨gn, 0, none⟩) n n, .slice (some ⟨gs, 0, none⟩) n n], .int .i64 (F : Int)] w fun e w' => ∃ z : Bool, e = .returned (.bool z) ∧ (z = true ↔ ∃ r, F ≤ r ∧ r < F + 64 ∧ r < R ∧ RdUn f r) ∧ Below w.heap.size w w' := by
  subst hn hR
  refine (reads_c f fa fb fd fe gn gs F w h hcl hrn hrl hLn hSn hF hl hp hI).mono ?_
  rintro e w1 ⟨z, rfl, hz, hb⟩
  refine ⟨z, rfl, hz.trans ⟨?_, ?_⟩, hb⟩
  · rintro ⟨b, h1, h2, h3, h4⟩
    exact ⟨F + b, by omega, by omega, h2, h3, h4⟩
  · rintro ⟨r, h1, h2, h3, h4, h5⟩
    obtain ⟨b, rfl⟩ : ∃ b, r = F + b := ⟨r - F, by omega⟩
    exact ⟨b, by omega, h3, h4, h5⟩
set_option maxHeartbeats 8000000 in
set_option maxRecDepth 100000 in
theorem set_any {P : Nat → Prop} (f : FuI) (fa fb fd fe : Value) (w : World) (h : Hid (FuV P w f fa fb fd fe)) (hq : Hid (FuQ f)) (hcap : Hid (∀ A n cap, fb = .slice A n cap → n ≤ cap ∧ cap ≤ maxLen)) (hcl : Hid ((f.code.length + 1) * 1024 ≤ 140737488355328)) (hrn : Hid (RwN f.rows)) (hrl : Hid (f.rows.length * 8 ≤ 140737488355328)) (hI : Hid (∀ x ∈ f.code, I64 (defI x) ∧ (∀ u ∈ usesI x, I64 u) ∧ x.args.length * 8 ≤ 140737488355328 ∧ (usesI x).length * 8 ≤ 140737488355328)) :
    Calls Try.prog 10 #[fuL fa fb f.ret fd fe] w fun e w' => SetOut f w e w' := by
  obtain ⟨FA, ac, hFA⟩ := h.out.a.shape
  subst hFA
  obtain ⟨FB, bc, hFB⟩ := h.out.b.shape
  subst hFB
  obtain ⟨D, dcap, hD⟩ := h.out.d.shape
  subst hD
  obtain ⟨E, ecap, hE⟩ := h.out.e.shape
  subst hE
  obtain ⟨n, hn⟩ : ∃ n, f.code.length = n := ⟨_, rfl⟩
  obtain ⟨R, hR⟩ : ∃ R, f.regs.length = R := ⟨_, rfl⟩
  have HN := lhid hn
  have HR := lhid hR
  have hf2 := h.out
  rw [hn, hR] at hf2 ⊢
  have HFU := lhid hf2
  clear hn hf2 h hR
  obtain ⟨c, hc⟩ : ∃ c, chkN f = c := ⟨_, rfl⟩
  have HC := lhid hc
  clear hc
  go_enter Try.func10, Try.ntmps10
  go_wp2_with fail
  generalize hW : World.alloc _ _ = w0
  obtain ⟨B0, hB0⟩ : ∃ B, B = w.heap.size := ⟨_, rfl⟩
  have hb0 : Below B0 w w0 := by rw [← hW, hB0]; exact (Below.refl _ _).alloc (Nat.le_refl _) _
  have hF0 : FBox w0 B0 (.slice FA R ac) (.slice FB f.params.length bc) f.ret (.slice D n dcap) (.slice E f.rows.length ecap) := by rw [← hW, hB0]; exact heap_alloc_new w _
  rw [← hB0]
  have HB0 := lhid hB0
  have HF0 := lhid hF0
  have HBw := lhid hb0
  have HU0 := lhid (HFU.out.below (by rw [← hB0]; exact hb0))
  obtain ⟨p0, p1, p2, p3, p4⟩ := hF0.cells
  clear hW hb0 hF0 hB0
  with_reducible refine (check_r f _ _ _ _ c w0 HU0 hq hcap HC).mono ?_
  rintro e w1 ⟨rfl, hb⟩
  have HF1 : Hid (FBox w1 B0 (.slice FA R ac) (.slice FB f.params.length bc) f.ret (.slice D n dcap) (.slice E f.rows.length ecap)) := lhid (heap_keep HF0.out hb)
  have HB1 : Hid (Below B0 w w1) := lhid (HBw.out.trans (hb.mono (by have := heap_lt HF0.out; omega)))
  have HU1 := lhid (HFU.out.below (by rw [← HB0.out]; exact HB1.out))
  clear hb HF0 HBw HU0 p0 p1 p2 p3 p4
  obtain ⟨p0, p1, p2, p3, p4⟩ := HF1.out.cells
  by_cases hc0 : c = 0
  · have hcb : (c != 0) = false := by rw [hc0]; rfl
    have HC0 : Hid (chkN f = 0) := lhid (HC.out.trans hc0)
    clear hc0
    go_wp2_with fail
    with_reducible refine (webOf_n f n HN.out _ _ _ _ w1 HU1 (lhid (by have := hcl.out; omega))).mono ?_
    rintro e w2 ⟨gn, gs, rfl, hgn, hgs, hl, hs, hb⟩
    have HF2 : Hid (FBox w2 B0 (.slice FA R ac) (.slice FB f.params.length bc) f.ret (.slice D n dcap) (.slice E f.rows.length ecap)) := lhid (heap_keep HF1.out hb)
    have HB2 : Hid (Below B0 w w2) := lhid (HB1.out.trans (hb.mono (by have := heap_lt HF1.out; omega)))
    have HL := lhid (hl.base (Nat.zero_le _))
    have HS := lhid hs
    clear hb hgn hgs hl hs HF1 HB1 HU1 p0 p1 p2 p3 p4
    go_wp2_with fail
    generalize hW : World.alloc _ _ = w3
    obtain ⟨WB, hWB⟩ : ∃ WB, WB = w2.heap.size := ⟨_, rfl⟩
    have hb3 : Below w2.heap.size w2 w3 := by rw [← hW]; exact (Below.refl _ _).alloc (Nat.le_refl _) _
    have HW3 : Hid (WBox w3 WB (.slice FA R ac) (.slice FB f.params.length bc) f.ret (.slice D n dcap) (.slice E f.rows.length ecap) (.slice (some ⟨gn, 0, none⟩) n n) (.slice (some ⟨gs, 0, none⟩) n n)) := lhid (by rw [← hW, hWB]; exact heap_alloc_new w2 _)
    rw [← hWB]
    have HF3 : Hid (FBox w3 B0 (.slice FA R ac) (.slice FB f.params.length bc) f.ret (.slice D n dcap) (.slice E f.rows.length ecap)) := lhid (heap_keep HF2.out hb3)
    have HB3 : Hid (Below B0 w w3) := lhid (HB2.out.trans (hb3.mono (by have := heap_lt HF2.out; omega)))
    have HL3 := lhid (HL.out.below hb3)
    have HS3 := lhid (HS.out.of (hb3.block gs HS.out.lt))
    have HRL : Hid (R ≤ 20000) := lhid (by rw [← HR.out]; exact (chk_sizes HC0.out).1)
    have HP : Hid (∀ r ∈ f.params, I64 r) := lhid (fun r hr => by have := (chk_sizes HC0.out).2.2 r hr; have := (chk_sizes HC0.out).1; unfold I64; omega)
    clear hb3 hW hWB HF2 HB2 HL HS
    go_loopg [4] (R + 1) (fun g s wr => ∃ F : Nat, g = R + 1 - F ∧ s = .int .i64 F ∧ F ≤ R + 64 ∧ Hid (∀ r, r < F → r < R → ¬ RdUn f r) ∧ Hid (Below w3.heap.size w3 wr))
    case atStart => exact ⟨0, by omega, rfl, by omega, lhid (fun r hr => by omega), lhid (Below.refl _ _)⟩
    case round =>
      obtain ⟨F, rfl, rfl, hF, HNO, HBr⟩ := hrel
      have hB0s : B0 ≤ w3.heap.size := by have := heap_lt HF3.out; omega
      have hBq : Below B0 w wr := HB3.out.trans (HBr.out.mono hB0s)
      have hF4 : FBox wr B0 (.slice FA R ac) (.slice FB f.params.length bc) f.ret (.slice D n dcap) (.slice E f.rows.length ecap) := heap_keep HF3.out HBr.out
      obtain ⟨p0, p1, p2, p3, p4⟩ := hF4.cells
      have hW4 : WBox wr WB (.slice FA R ac) (.slice FB f.params.length bc) f.ret (.slice D n dcap) (.slice E f.rows.length ecap) (.slice (some ⟨gn, 0, none⟩) n n) (.slice (some ⟨gs, 0, none⟩) n n) := heap_keep HW3.out HBr.out
      obtain ⟨q0, q1, q2, q3, q4, q5, q6⟩ := hW4.cells
      have HBq := lhid hBq
      have HUr := lhid (HFU.out.below (by rw [← HB0.out]; exact hBq))
      clear hB0s hBq hF4 hW4
      have hrl2 := HRL.out
      have hwf : wrap64 ((F : Int) + 64) = ((F + 64 : Nat) : Int) := by rw [IntWalk.wrap64_in _ (by omega)]; omega
      by_cases hlt : F < R
      · have k3 : (F : Int) < R := by omega
        go_wp2_with fail
        with_reducible refine (reads_n f n R HN.out HR.out _ _ _ _ gn gs F wr HUr hcl hrn hrl (lhid (HL3.out.below HBr.out)) (lhid (HS3.out.of (HBr.out.block gs HS3.out.lt))) (lhid hlt) (lhid (by omega)) HP hI).mono ?_
        rintro e w5 ⟨z, rfl, hz, hb⟩
        have HB5 := lhid (HBr.out.trans (hb.mono HBr.out.size))
        have HBq5 : Hid (Below B0 w w5) := lhid (HBq.out.trans (hb.mono (by have := HBq.out.size; have := HB0.out; omega)))
        have HZ := lhid hz
        clear hz hb p0 p1 p2 p3 p4 q0 q1 q2 q3 q4 q5 q6
        cases z with
        | true =>
          go_wp2_with fail
          go_ret
          refine ⟨false, rfl, ?_, by rw [← HB0.out]; exact HBq5.out⟩
          obtain ⟨r, h1, h2, h3, h4⟩ := HZ.out.1 (by trivial)
          refine ⟨fun h => (by cases h), fun h => absurd h4 (h.2 r (by rw [HR.out]; exact h3))⟩
        | false =>
          have HNO2 : Hid (∀ r, r < F + 64 → r < R → ¬ RdUn f r) := lhid (fun r h1 h2 h3 => by
            by_cases e : r < F
            · exact HNO.out r e h2 h3
            · exact absurd (HZ.out.2 ⟨r, by omega, h1, h2, h3⟩) (by simp))
          go_wp2_with fail
          go_roundg (R + 1 - (F + 64))
          case measure => omega
          case rel => exact ⟨F + 64, rfl, by first | rfl | rw [hwf], by omega, HNO2, HB5⟩
      · have k3 : ¬ (F : Int) < R := by omega
        go_wp2_with fail
        go_ret
        exact ⟨true, rfl, ⟨fun _ => ⟨HC0.out, fun r hr => HNO.out r (by rw [HR.out] at hr; omega) (by rw [HR.out] at hr; exact hr)⟩, fun _ => rfl⟩, by rw [← HB0.out]; exact HBq.out⟩
  · have hcb : (c != 0) = true := by simpa using hc0
    have HNS : Hid (¬ SetN f) := lhid (fun h => hc0 (HC.out.symm.trans h.1))
    clear hc0
    go_wp2_with fail
    go_ret
    exact ⟨false, rfl, ⟨fun h => (by cases h), fun h => absurd h HNS.out⟩, by rw [← HB0.out]; exact HB1.out⟩
end Go.Proofs.Ytifgkpfieapdjaa
/- The document's search for a read, with a list of open places: plain words, and an append of one own list to another. -/
namespace Go.Proofs.Ytifgkpfieapdjaa
open Go.RowKit Go
set_option linter.unusedVariables false
set_option linter.unusedSimpArgs false

/-- Where one goes on to from a place, while a register isn't written. -/
def sucL (f : FuI) (r : Int) (i : Nat) (x : InI) : List Int := caughtL f i ++ (if defI x = r then [] else nextL f i)
inductive PR (f : FuI) (r : Int) (st : List Int) : Nat → Prop
  | first {j : Nat} : (j : Int) ∈ st → j < f.code.length → PR f r st j
  | step {i j : Nat} {x : InI} : PR f r st i → f.code[i]? = some x → (j : Int) ∈ sucL f r i x → j < f.code.length → PR f r st j
theorem caught_iff {f : FuI} {i : Nat} {x : InI} (hx : f.code[i]? = some x) (j : Int) : j ∈ caughtL f i ↔ throwsB x.op = true ∧ j ∈ catL f.rows i := by
  have hcg : caughtL f i = if throwsB x.op then uniqL (catL f.rows i) else [] := by unfold caughtL; rw [atC_some hx]
  rw [hcg]
  cases throwsB x.op with
  | true => simp only [if_true, true_and]; exact ⟨uniq_mem, mem_uniq⟩
  | false => simp
theorem unr_pr {f : FuI} {r : Int} (i : Nat) : UnR f r i ↔ PR f r [0] i := by
  constructor
  · intro h
    induction h with
    | first h0 => exact .first (by simp) h0
    | next _ hx hj hjn hs ih => exact .step ih hx (List.mem_append_right _ (by rw [if_neg hs]; exact hj)) hjn
    | caught _ hx ht hj hjn ih => exact .step ih hx (List.mem_append_left _ ((caught_iff hx _).2 ⟨ht, hj⟩)) hjn
  · intro h
    induction h with
    | @first j hj hjn =>
      have : j = 0 := by simpa using hj
      subst this
      exact .first hjn
    | step _ hx hj hjn ih =>
      rcases List.mem_append.1 hj with h1 | h1
      · obtain ⟨h2, h3⟩ := (caught_iff hx _).1 h1
        exact .caught ih hx h2 h3 hjn
      · split at h1
        · cases h1
        · rename_i hs
          exact .next ih hx h1 hjn hs
theorem caughtL_len (f : FuI) (i : Int) : (caughtL f i).length ≤ f.rows.length := by
  unfold caughtL
  split
  · simp
  · split
    · exact Nat.le_trans (uniq_len _) (catL_len _ _)
    · simp
theorem sucL_len (f : FuI) (r : Int) (i : Nat) (x : InI) : (sucL f r i x).length ≤ f.rows.length + 2 := by
  have h1 := caughtL_len f i
  have h2 := nextL_two f i
  unfold sucL
  rw [List.length_append]
  split
  · simp; omega
  · omega
/-- What holds of the marks and the open places. -/
structure Dfs (f : FuI) (r : Int) (st : List Int) (S : Nat → Bool) (T : List Int) : Prop where
  sound : ∀ i, i < f.code.length → S i = true → PR f r st i
  opn : ∀ t ∈ T, ∀ j : Nat, t = j → j < f.code.length → PR f r st j
  noread : ∀ i x, f.code[i]? = some x → S i = true → r ∉ usesI x
  closed : ∀ i x, f.code[i]? = some x → S i = true → ∀ j : Nat, (j : Int) ∈ sucL f r i x → j < f.code.length → S j = true ∨ (j : Int) ∈ T
  start : ∀ j : Nat, (j : Int) ∈ st → j < f.code.length → S j = true ∨ (j : Int) ∈ T
theorem Dfs.begin (f : FuI) (r : Int) (st : List Int) : Dfs f r st (fun _ => false) st :=
  ⟨fun _ _ h => (by cases h), fun t ht j e hj => .first (e ▸ ht) hj, fun _ _ _ h => (by cases h), fun _ _ _ h => (by cases h), fun j hj _ => .inr hj⟩
theorem Dfs.skip {f : FuI} {r : Int} {st : List Int} {S : Nat → Bool} {T : List Int} {i : Int} (h : Dfs f r st S (T ++ [i])) (hi : ∀ j : Nat, i = j → j < f.code.length → S j = true) : Dfs f r st S T where
  sound := h.sound
  opn t ht := h.opn t (List.mem_append_left _ ht)
  noread := h.noread
  closed a x hx ha j hj hjn := by
    rcases h.closed a x hx ha j hj hjn with h1 | h1
    · exact .inl h1
    · rcases List.mem_append.1 h1 with h2 | h2
      · exact .inr h2
      · exact .inl (hi j (List.mem_singleton.1 h2).symm hjn)
  start j hj hjn := by
    rcases h.start j hj hjn with h1 | h1
    · exact .inl h1
    · rcases List.mem_append.1 h1 with h2 | h2
      · exact .inr h2
      · exact .inl (hi j (List.mem_singleton.1 h2).symm hjn)
theorem Dfs.visit {f : FuI} {r : Int} {st : List Int} {S : Nat → Bool} {T : List Int} {i : Nat} {x : InI} (h : Dfs f r st S (T ++ [(i : Int)])) (hx : f.code[i]? = some x) (hr : r ∉ usesI x) : Dfs f r st (updB S i) (T ++ sucL f r i x) := by
  have hi : i < f.code.length := (List.getElem?_eq_some_iff.1 hx).1
  have hp : PR f r st i := h.opn i (by simp) i rfl hi
  have hup : ∀ j, S j = true → updB S i j = true := fun j hj => by unfold updB; split <;> first | rfl | exact hj
  have hmem : ∀ j : Nat, S j = true ∨ (j : Int) ∈ T ++ [(i : Int)] → updB S i j = true ∨ (j : Int) ∈ T ++ sucL f r i x := by
    intro j hj
    rcases hj with h1 | h1
    · exact .inl (hup j h1)
    · rcases List.mem_append.1 h1 with h2 | h2
      · exact .inr (List.mem_append_left _ h2)
      · have e : j = i := by have := List.mem_singleton.1 h2; omega
        subst e
        exact .inl (by simp [updB])
  refine ⟨fun j hj hs => ?_, fun t ht j e hj => ?_, fun j y hy hs => ?_, fun j y hy hs k hk hkn => ?_, fun j hj hjn => hmem j (h.start j hj hjn)⟩
  · unfold updB at hs
    split at hs
    · rename_i e; subst e; exact hp
    · exact h.sound j hj hs
  · rcases List.mem_append.1 ht with h1 | h1
    · exact h.opn t (List.mem_append_left _ h1) j e hj
    · exact .step hp hx (e ▸ h1) hj
  · unfold updB at hs
    split at hs
    · rename_i e
      subst e
      rw [hx] at hy
      injection hy with hy
      subst hy
      exact hr
    · exact h.noread j y hy hs
  · unfold updB at hs
    split at hs
    · rename_i e
      subst e
      rw [hx] at hy
      injection hy with hy
      subst hy
      exact .inr (List.mem_append_right _ hk)
    · exact hmem k (h.closed j y hy hs k hk hkn)
theorem Dfs.done {f : FuI} {r : Int} {st : List Int} {S : Nat → Bool} (h : Dfs f r st S []) : ∀ i x, f.code[i]? = some x → r ∈ usesI x → ¬ PR f r st i := by
  have key : ∀ i, PR f r st i → S i = true := by
    intro i hp
    induction hp with
    | first hj hjn => rcases h.start _ hj hjn with h1 | h1; exact h1; cases h1
    | step _ hx hj hjn ih => rcases h.closed _ _ hx ih _ hj hjn with h1 | h1; exact h1; cases h1
  exact fun i x hx hr hp => h.noread i x hx (key i hp) hr
theorem Dfs.less {f : FuI} {r : Int} {S : Nat → Bool} {T : List Int} {i n : Nat} {x : InI} (hi : i < n) (hs : S i = false) : cntF n (updB S i) * (f.rows.length + 3) + (T ++ sucL f r i x).length + 1 ≤ cntF n S * (f.rows.length + 3) + (T ++ [(i : Int)]).length := by
  have h1 := cntF_upd hi hs
  have h2 := sucL_len f r i x
  have h3 : (cntF n (updB S i) + 1) * (f.rows.length + 3) ≤ cntF n S * (f.rows.length + 3) := Nat.mul_le_mul_right _ h1
  rw [Nat.add_mul] at h3
  simp only [List.length_append, List.length_cons, List.length_nil]
  omega
theorem cntF_le (n : Nat) (S : Nat → Bool) : cntF n S ≤ n := by
  have := List.countP_le_length (p := fun i => !S i) (l := List.range n)
  simpa [cntF] using this
theorem Ch.belowB {X : Nat → Prop} {a w w' : World} (h : Ch X a w) (hb : Below a.heap.size w w') : Ch X a w' :=
  ⟨hb.os.trans h.os, hb.tape.trans h.tape, hb.output.trans h.output, Nat.le_trans h.size hb.size, fun k hk hx => (hb.block k hk).trans (h.block k hk hx)⟩
theorem wpList_append_two {w : World} {ops : Array Oper} {rest : List Oper} {o : Oper} {a : Act} {Q : Exit → Act → World → Prop} (hgd : o.guard = none) (s x : Operand)
    (ho : o.op = .call { callee := .builtin .append, args := #[s, x], argTypes := #[22, 22] })
    (B : Nat) (v u : Value) (l m : List Int) (hs : a.eval s = v) (hx : a.eval x = u) (h : OwN w B v l) (k : OwN w B u m) (hb : B ≤ w.heap.size) (hl : (l.length + m.length) * 8 ≤ 140737488355328)
    (hK : ∀ v' w', OwN w' B v' (l ++ m) → Below B w w' → wpList Try.prog ops Q rest (a.put o.dst v') w') : wpList Try.prog ops Q (o :: rest) a w := by
  refine wpList_plain hgd fun K hK2 => ?_
  obtain ⟨v', w', hrun, h1, h2⟩ := run_append_two o.type h k hb hl
  unfold Oper.wp
  simp [execOp, ho, resolve, invoke, builtin, hs, hx, hrun, Result.andThen]
  exact hK2 _ _ (hK v' w' h1 h2)
end Go.Proofs.Ytifgkpfieapdjaa
