/- The chain of KinNearest in plain words. -/
import Derived.Test.YtkphpihggbbpkaaKinFits0
import Derived.Test.YtkphpihggbbpkaaKinHolds2
import Derived.Test.YtkphpihggbbpkaaKinMeth
namespace Go.Proofs.Ytkphpihggbbpkaa
open Go.RowKit Go
set_option linter.unusedVariables false
set_option linter.unusedSimpArgs false

def nm (i : Nat) : Bs := [107, UInt8.ofNat (97 + i / 10), UInt8.ofNat (48 + i % 10)]
/-- The chain's classes. -/
def cls (d : Bs) (i : Nat) (h : Bool) : ClI := ⟨0, nm i, if i = 0 then nObject else nm (i - 1), [], [], if h then [⟨0, [102], d⟩] else [], if h then [⟨0, [109], d, 0, 0, [], [], []⟩] else []⟩
def chn (d : Bs) (hs : List Bool) (m : Nat) : List ClI := (List.range m).map fun i => cls d i (hs.getD i false)
theorem chn_succ (d : Bs) (hs : List Bool) (m : Nat) : chn d hs (m + 1) = chn d hs m ++ [cls d m (hs.getD m false)] := by unfold chn; rw [List.range_succ, List.map_append]; rfl
theorem chn_len (d : Bs) (hs : List Bool) (m : Nat) : (chn d hs m).length = m := by simp [chn]
theorem chn_names (d : Bs) (hs : List Bool) (m : Nat) : names (ownL ++ chn d hs m) = names ownL ++ (List.range m).map nm := by
  unfold names chn
  rw [List.map_append, List.map_map]
  rfl
theorem nm_own : (names ownL ++ (List.range 35).map nm).Nodup := by decide +kernel
theorem chn_nodup (d : Bs) (hs : List Bool) {m : Nat} (hm : m ≤ 35) : (names (ownL ++ chn d hs m)).Nodup := by
  rw [chn_names]
  refine nm_own.sublist ((List.Sublist.refl _).append ?_)
  have : List.range m = (List.range 35).take m := by rw [List.take_range, Nat.min_eq_left hm]
  rw [this, List.map_take]
  exact List.take_sublist _ _
theorem find_nodup : ∀ {L : List ClI} {c : ClI}, (names L).Nodup → c ∈ L → findC L c.name = some c
  | [], _, _, h => by cases h
  | x :: L, c, hn, h => by
    have hn' : x.name ∉ names L ∧ (names L).Nodup := List.nodup_cons.1 hn
    rcases List.mem_cons.1 h with rfl | h
    · unfold findC; simp
    · have hne : ¬ x.name = c.name := fun e => hn'.1 (by rw [e]; exact List.mem_map_of_mem h)
      have := find_nodup hn'.2 h
      unfold findC at this ⊢
      rw [List.find?_cons, decide_eq_false hne]
      exact this
theorem chn_find (d : Bs) (hs : List Bool) {m i : Nat} (hm : m ≤ 35) (hi : i < m) : findC (ownL ++ chn d hs m) (nm i) = some (cls d i (hs.getD i false)) :=
  find_nodup (L := ownL ++ chn d hs m) (c := cls d i (hs.getD i false)) (chn_nodup d hs hm) (List.mem_append_right _ (List.mem_map.2 ⟨i, List.mem_range.2 hi, rfl⟩))
theorem chn_obj (d : Bs) (hs : List Bool) (m : Nat) : ∃ c, findC (ownL ++ chn d hs m) nObject = some c ∧ c.super = [] ∧ c.fields = [] ∧ c.methods = [] ∧ ifc c = false := by
  have h0 : ∃ y, findC ownL nObject = some y ∧ y.super = [] ∧ y.fields = [] ∧ y.methods = [] ∧ ifc y = false := ⟨_, rfl, rfl, rfl, by decide, by decide⟩
  obtain ⟨y, hy, hr⟩ := h0
  refine ⟨y, ?_, hr⟩
  unfold findC at hy ⊢
  rw [List.find?_append, hy]
  rfl
theorem nm_name : ∀ i, i < 36 → nameB (nm i) false = true := by decide +kernel
theorem chn_mis (d : Bs) (hs : List Bool) {m : Nat} (hm : m ≤ 35) : (chn d hs m).any misB = false := by
  rw [List.any_eq_false]
  intro c hc
  obtain ⟨i, hi, rfl⟩ := List.mem_map.1 hc
  have := nm_name i (by have := List.mem_range.1 hi; omega)
  unfold misB
  show ¬ (!nameB (nm i) false) = true
  rw [this]
  decide
theorem ifc_cls (d : Bs) (i : Nat) (h : Bool) : ifc (cls d i h) = false := by
  show (bits .and .i64 0 512 != 0) = false
  decide
theorem nm_plain : ∀ i, i < 36 → nm i ≠ nString ∧ nm i ≠ nSys := by decide +kernel
theorem chn_ok (d : Bs) (hs : List Bool) {m : Nat} (hm : m ≤ 35) : KinOK (ownL ++ chn d hs m) (chn d hs m) := by
  intro c hc
  obtain ⟨i, hi, rfl⟩ := List.mem_map.1 hc
  have hi := List.mem_range.1 hi
  refine ⟨?_, by simp [cls, AreI]⟩
  have hif := ifc_cls d i (hs.getD i false)
  by_cases h0 : i = 0
  · obtain ⟨y, hy, _, _, _, h5⟩ := chn_obj d hs m
    have hs0 : (cls d i (hs.getD i false)).super = nObject := by unfold cls; simp [h0]
    rw [hs0]
    unfold mayB
    rw [hy]
    show (!ifc y && !decide (nObject = nString) && !decide (nObject = nSys) && (decide (nObject = nObject) || !ifc (cls d i (hs.getD i false)))) = true
    rw [h5, hif]
    decide
  · have hs0 : (cls d i (hs.getD i false)).super = nm (i - 1) := by unfold cls; simp [h0]
    have hp := nm_plain (i - 1) (by omega)
    rw [hs0]
    unfold mayB
    rw [chn_find d hs hm (show i - 1 < m by omega)]
    show (!ifc (cls d (i - 1) (hs.getD (i - 1) false)) && !decide (nm (i - 1) = nString) && !decide (nm (i - 1) = nSys) && (decide (nm (i - 1) = nObject) || !ifc (cls d i (hs.getD i false)))) = true
    rw [hif, ifc_cls, decide_eq_false hp.1, decide_eq_false hp.2]
    simp
def rk (s : Bs) : Nat := if s.head? = some 107 then 10 + 10 * (s.getD 1 0).toNat + (s.getD 2 0).toNat else rank1 s
theorem rk_own : ∀ c ∈ ownL, c.super = [] ∨ rk c.super < rk c.name := by decide +kernel
theorem rk_nm : ∀ i, i < 36 → 0 < i → rk (nm (i - 1)) < rk (nm i) := by decide +kernel
theorem rk_lt : ∀ i, i < 36 → ∀ j, j < i → rk (nm j) < rk (nm i) := by decide +kernel
theorem rk_0 : rk nObject < rk (nm 0) := by decide +kernel
theorem chn_closed (d : Bs) (hs : List Bool) {m : Nat} (hm : m ≤ 35) : Closed (ownL ++ chn d hs m) := closed_all (chn_mis d hs hm) (chn_ok d hs hm)
theorem chn_rank (d : Bs) (hs : List Bool) {m : Nat} (hm : m ≤ 35) : ∀ s, ∀ n ∈ nxt (ownL ++ chn d hs m) s, rk n < rk s := by
  intro s n hn
  have := nxt_in (L := ownL ++ chn d hs m) (fun s l => decide (∀ n ∈ l, rk n < rk s)) ?_ s n hn
  · simpa using this
  intro c hc n hn
  have hlt : rk n < rk c.name := by
    unfold kinOf at hn
    rcases List.mem_append.1 hn with hn | hn
    · split at hn
      · rename_i hsome
        simp at hn
        subst hn
        rcases List.mem_append.1 hc with hc | hc
        · rcases rk_own c hc with e | e
          · obtain ⟨y, hy⟩ := Option.isSome_iff_exists.1 hsome
            have h1 := find_names hy
            rw [e] at h1
            exact absurd h1 (chn_closed d hs hm).2
          · exact e
        · obtain ⟨i, hi, rfl⟩ := List.mem_map.1 hc
          have hi := List.mem_range.1 hi
          by_cases h0 : i = 0
          · subst h0; exact rk_0
          · have hs0 : (cls d i (hs.getD i false)).super = nm (i - 1) := by unfold cls; simp [h0]
            rw [hs0]
            exact rk_nm i (by omega) (by omega)
      · cases hn
    · rcases List.mem_append.1 hc with hc | hc
      · rw [(own_names c hc).2.2.1] at hn; cases hn
      · obtain ⟨i, hi, rfl⟩ := List.mem_map.1 hc
        cases hn
  simpa using hlt
theorem chn_circ (d : Bs) (hs : List Bool) {m : Nat} (hm : m ≤ 35) (s : Bs) : ¬ Circ (ownL ++ chn d hs m) s := no_circ rk (chn_rank d hs hm) s
theorem chn_new (d : Bs) (hs : List Bool) {m : Nat} (hm : m ≤ 35) : NewE (chn d hs m) 0 :=
  .inr ⟨by rw [chn_len]; omega, .inr ⟨chn_mis d hs hm, .inr ⟨chn_nodup d hs hm, .inr ⟨chn_ok d hs hm, .inr ⟨fun s _ => chn_circ d hs hm s, rfl⟩⟩⟩⟩⟩
theorem Lin.det {L : List ClI} {s : Bs} {l : List Bs} (h : Lin L s l) : ∀ {k : List Bs}, Lin L s k → l = k := by
  induction h with
  | stop h1 =>
    intro k hk
    cases hk with
    | stop => rfl
    | more h2 _ => rw [h1] at h2; cases h2
  | more h1 _ ih =>
    intro k hk
    cases hk with
    | stop h2 => rw [h1] at h2; cases h2
    | more h2 h3 =>
      rw [h1] at h2
      injection h2 with h2
      subst h2
      rw [ih h3]
/-- The line of the i-th. -/
def lineN : Nat → List Bs
  | 0 => [nm 0, nObject]
  | i + 1 => nm (i + 1) :: lineN i
theorem chn_none (d : Bs) (hs : List Bool) {m : Nat} (hm : m ≤ 35) : findC (ownL ++ chn d hs m) [] = none := findC_none.2 (chn_closed d hs hm).2
theorem chn_line (d : Bs) (hs : List Bool) {m : Nat} (hm : m ≤ 35) : ∀ i, i < m → Lin (ownL ++ chn d hs m) (nm i) (lineN i)
  | 0, hi => by
    obtain ⟨y, hy, h2, _⟩ := chn_obj d hs m
    refine .more (chn_find d hs hm hi) ?_
    show Lin _ nObject [nObject]
    exact .more hy (by rw [h2]; exact .stop (chn_none d hs hm))
  | i + 1, hi => by
    refine .more (chn_find d hs hm hi) ?_
    show Lin _ (nm i) (lineN i)
    exact chn_line d hs hm i (by omega)
theorem line_in : ∀ i j, j ≤ i → nm j ∈ lineN i
  | 0, j, h => by
    obtain rfl : j = 0 := by omega
    simp [lineN]
  | i + 1, j, h => by
    by_cases e : j = i + 1
    · subst e; simp [lineN]
    · simp only [lineN, List.mem_cons]; exact .inr (line_in i j (by omega))
theorem line_obj : ∀ i, nObject ∈ lineN i
  | 0 => by simp [lineN]
  | i + 1 => by simp only [lineN, List.mem_cons]; exact .inr (line_obj i)
theorem line_are : ∀ i z, z ∈ lineN i → z = nObject ∨ ∃ j, j ≤ i ∧ z = nm j
  | 0, z, h => by
    simp [lineN] at h
    rcases h with h | h
    · exact .inr ⟨0, Nat.le_refl _, h⟩
    · exact .inl h
  | i + 1, z, h => by
    simp only [lineN, List.mem_cons] at h
    rcases h with h | h
    · exact .inr ⟨i + 1, Nat.le_refl _, h⟩
    · rcases line_are i z h with h | ⟨j, h1, h2⟩
      · exact .inl h
      · exact .inr ⟨j, by omega, h2⟩
theorem chn_nxt (d : Bs) (hs : List Bool) {m i : Nat} (hm : m ≤ 35) (hi : i < m) : ∀ n ∈ nxt (ownL ++ chn d hs m) (nm i), n = if i = 0 then nObject else nm (i - 1) := by
  intro n hn
  unfold nxt at hn
  rw [chn_find d hs hm hi] at hn
  change n ∈ kinOf _ _ at hn
  unfold kinOf at hn
  rcases List.mem_append.1 hn with hn | hn
  · split at hn
    · simp at hn
      rw [hn]
      rfl
    · cases hn
  · cases hn
theorem chn_reach (d : Bs) (hs : List Bool) {m i : Nat} (hm : m ≤ 35) (hi : i < m) : ∀ {x z : Bs}, Rch (ownL ++ chn d hs m) x z → x ∈ lineN i → z ∈ lineN i := by
  intro x z h
  induction h with
  | refl => exact fun h => h
  | step h1 _ ih =>
    intro hx
    apply ih
    rcases line_are i _ hx with rfl | ⟨j, hj, rfl⟩
    · rw [obj_nxt (chn_closed d hs hm)] at h1; cases h1
    · rw [chn_nxt d hs hm (by omega) _ h1]
      split
      · exact line_obj i
      · exact line_in i _ (by omega)
theorem chn_up (d : Bs) (hs : List Bool) {m : Nat} (hm : m ≤ 35) : ∀ i, i < m → Rch (ownL ++ chn d hs m) (nm i) (nm 0)
  | 0, _ => .refl _
  | i + 1, hi => by
    refine .step (y := nm i) ?_ (chn_up d hs hm i (by omega))
    exact super_in (chn_find d hs hm hi) (by show (findC _ (nm i)).isSome = true; rw [chn_find d hs hm (show i < m by omega)]; rfl)
/-- Who has it nearest. -/
def wantN (hs : List Bool) : Nat → Bs
  | 0 => if hs.getD 0 false then nm 0 else []
  | i + 1 => if hs.getD (i + 1) false then nm (i + 1) else wantN hs i
theorem nm_ne (i : Nat) : nm i ≠ [] := by unfold nm; simp
theorem chn_fieldIn (d : Bs) (hs : List Bool) {m i : Nat} (hm : m ≤ 35) (hi : i < m) : fieldIn (ownL ++ chn d hs m) [102] d (nm i) = if hs.getD i false then some (nm i, ⟨0, [102], d⟩) else none := by
  unfold fieldIn
  rw [chn_find d hs hm hi]
  by_cases hb : hs.getD i false = true
  · rw [hb]; simp [cls, fldB]
  · rw [Bool.not_eq_true] at hb; rw [hb]; rfl
theorem chn_methIn (d : Bs) (hs : List Bool) {m i : Nat} (hm : m ≤ 35) (hi : i < m) : methIn (ownL ++ chn d hs m) [109] d (nm i) = if hs.getD i false then some (nm i, ⟨0, [109], d, 0, 0, [], [], []⟩) else none := by
  unfold methIn
  rw [chn_find d hs hm hi]
  by_cases hb : hs.getD i false = true
  · rw [hb]; simp [cls, methB]
  · rw [Bool.not_eq_true] at hb; rw [hb]; rfl
theorem chn_fields (d : Bs) (hs : List Bool) {m : Nat} (hm : m ≤ 35) : ∀ i, i < m → (lineN i).findSome? (fieldIn (ownL ++ chn d hs m) [102] d) = if wantN hs i = [] then none else some (wantN hs i, ⟨0, [102], d⟩)
  | 0, hi => by
    obtain ⟨y, hy, _, h3, _⟩ := chn_obj d hs m
    have ho : fieldIn (ownL ++ chn d hs m) [102] d nObject = none := by unfold fieldIn; rw [hy]; simp [h3]
    simp only [lineN, List.findSome?_cons, chn_fieldIn d hs hm hi, ho, List.findSome?_nil, wantN]
    by_cases hb : hs.getD 0 false = true
    · simp only [hb, if_true, nm_ne, if_false]
    · simp only [hb, if_false, if_true]; simp
  | i + 1, hi => by
    have ih := chn_fields d hs hm i (by omega)
    simp only [lineN, List.findSome?_cons, chn_fieldIn d hs hm hi, ih, wantN]
    by_cases hb : hs.getD (i + 1) false = true
    · simp only [hb, if_true, nm_ne, if_false]
    · simp only [hb, if_false, if_true]; simp
theorem chn_meths (d : Bs) (hs : List Bool) {m : Nat} (hm : m ≤ 35) : ∀ i, i < m → (lineN i).findSome? (methIn (ownL ++ chn d hs m) [109] d) = if wantN hs i = [] then none else some (wantN hs i, ⟨0, [109], d, 0, 0, [], [], []⟩)
  | 0, hi => by
    obtain ⟨y, hy, _, _, h3, _⟩ := chn_obj d hs m
    have ho : methIn (ownL ++ chn d hs m) [109] d nObject = none := by unfold methIn; rw [hy]; simp [h3]
    simp only [lineN, List.findSome?_cons, chn_methIn d hs hm hi, ho, List.findSome?_nil, wantN]
    by_cases hb : hs.getD 0 false = true
    · simp only [hb, if_true, nm_ne, if_false]
    · simp only [hb, if_false, if_true]; simp
  | i + 1, hi => by
    have ih := chn_meths d hs hm i (by omega)
    simp only [lineN, List.findSome?_cons, chn_methIn d hs hm hi, ih, wantN]
    by_cases hb : hs.getD (i + 1) false = true
    · simp only [hb, if_true, nm_ne, if_false]
    · simp only [hb, if_false, if_true]; simp
/-- What Field answers. -/
theorem chn_field (d : Bs) (hs : List Bool) {m i : Nat} (hm : m ≤ 35) (hi : i < m) {o : Bs} {f : FlI} {ok : Bool} (h : ∃ l, Lin (ownL ++ chn d hs m) (nm i) l ∧ FieldIs (ownL ++ chn d hs m) [102] d l o f ok) : o = wantN hs i ∧ ok = !decide (wantN hs i = []) := by
  obtain ⟨l, hl, h⟩ := h
  obtain rfl := hl.det (chn_line d hs hm i hi)
  unfold FieldIs at h
  rw [chn_fields d hs hm i hi] at h
  by_cases e : wantN hs i = []
  · rw [if_pos e] at h
    rcases h with ⟨_, h1, _, h2⟩ | ⟨h1, _⟩
    · exact ⟨by rw [h1, e], by rw [h2, e]; rfl⟩
    · cases h1
  · rw [if_neg e] at h
    rcases h with ⟨h1, _⟩ | ⟨h1, h2⟩
    · cases h1
    · injection h1 with h1
      injection h1 with h1 _
      exact ⟨h1.symm, by rw [h2, decide_eq_false e]; rfl⟩
/-- What Method answers. -/
theorem chn_meth (d : Bs) (hs : List Bool) {m i : Nat} (hm : m ≤ 35) (hi : i < m) {o : Bs} {f : MeI} {ok : Bool} (h : ∃ l la, Lin (ownL ++ chn d hs m) (nm i) l ∧ Abv (ownL ++ chn d hs m) (nm i) la ∧ MethIs (ownL ++ chn d hs m) [109] d (l ++ la) o f ok) : o = wantN hs i ∧ ok = !decide (wantN hs i = []) := by
  obtain ⟨l, la, hl, ha, h⟩ := h
  obtain rfl := hl.det (chn_line d hs hm i hi)
  unfold MethIs at h
  rw [List.findSome?_append, chn_meths d hs hm i hi] at h
  by_cases e : wantN hs i = []
  · have hno : la.findSome? (methIn (ownL ++ chn d hs m) [109] d) = none := by
      rw [List.findSome?_eq_none_iff]
      intro z hz
      have h1 := chn_meths d hs hm i hi
      rw [if_pos e, List.findSome?_eq_none_iff] at h1
      exact h1 z (chn_reach d hs hm hi ((ha.2 z).1 hz).2 (line_in i i (Nat.le_refl _)))
    rw [if_pos e, hno] at h
    rcases h with ⟨_, h1, _, h2⟩ | ⟨h1, _⟩
    · exact ⟨by rw [h1, e], by rw [h2, e]; rfl⟩
    · cases h1
  · rw [if_neg e] at h
    rcases h with ⟨h1, _⟩ | ⟨h1, h2⟩
    · cases h1
    · simp at h1
      exact ⟨h1.1.symm, by rw [h2, decide_eq_false e]; rfl⟩
theorem ofL_nm (i : Nat) : ofL (nm i) = 76 :: nm i ++ [59] := by unfold ofL; rw [if_neg (by unfold nm; simp)]
theorem classL_nm (i : Nat) : classL (ofL (nm i)) = nm i := by rw [ofL_nm]; unfold classL nm; simp
theorem elem_nm (i : Nat) : ¬ refB (elemL (ofL (nm i))) = true := by rw [ofL_nm]; unfold elemL nm; simp [refB]
theorem chn_fits (d : Bs) (hs : List Bool) {m i : Nat} (hm : m ≤ 35) (hi : i < m) : FitsP (ownL ++ chn d hs m) (ofL (nm i)) (ofL (nm 0)) := by
  refine .inr (.inr (.inr ⟨by rw [ofL_nm]; unfold nm; simp, ?_⟩))
  rw [refFits_off (fun e => elem_nm i e.1), if_neg (by rw [ofL_nm]; simp), classL_nm, classL_nm]
  exact ⟨find_names (chn_find d hs hm hi), chn_up d hs hm i hi⟩
theorem chn_not (d : Bs) (hs : List Bool) {m i : Nat} (hm : m ≤ 35) (hi : i < m) (h0 : 0 < i) : ¬ FitsP (ownL ++ chn d hs m) (ofL (nm 0)) (ofL (nm i)) := by
  have hlt := rk_lt i (by omega) 0 h0
  rintro (h | h | ⟨h, _⟩ | ⟨_, h⟩)
  · rw [ofL_nm] at h; cases h
  · have := congrArg classL h
    rw [classL_nm, classL_nm] at this
    rw [this] at hlt
    omega
  · rw [ofL_nm] at h; injection h with h _; exact absurd h (by decide)
  · rw [refFits_off (fun e => elem_nm 0 e.1), if_neg (by rw [ofL_nm]; simp), classL_nm, classL_nm] at h
    have := rch_rank rk (chn_rank d hs hm) h.2
    omega
end Go.Proofs.Ytkphpihggbbpkaa
