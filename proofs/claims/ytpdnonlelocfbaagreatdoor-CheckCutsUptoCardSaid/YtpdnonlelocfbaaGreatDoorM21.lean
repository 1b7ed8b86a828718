/- Texts of this claim, joined: ChkInst, ChkGood. -/
import Derived.Test.YtpdnonlelocfbaaGreatDoorM10
import Derived.Test.YtpdnonlelocfbaaGreatDoorM19
import Derived.Test.YtpdnonlelocfbaaGreatDoorM18
import Derived.Test.YtpdnonlelocfbaaGreatDoorM15
import Derived.Test.YtpdnonlelocfbaaGreatDoorM16
import Derived.Test.YtpdnonlelocfbaaGreatDoorM20
import Derived.Test.YtpdnonlelocfbaaGreatDoorNuKinds
/- Package check: what kin, desc and num answer, as check's words have it. -/
namespace Go.Proofs.YtpdnonlelocfbaaGreatDoor
open Go.RowKit Go Go.Maps
set_option linter.unusedVariables false
theorem lin_det {L : List ClI} {s : Bs} {l l' : List Bs} (h : Lin L s l) (h' : Lin L s l') : l = l' := by
  induction h generalizing l' with
  | stop h =>
    cases h' with
    | stop _ => rfl
    | more h3 _ => rw [h] at h3; cases h3
  | more h1 _ ih =>
    cases h' with
    | stop h3 => rw [h1] at h3; cases h3
    | more h3 h4 =>
      rw [h1] at h3
      injection h3 with h3
      subst h3
      rw [ih h4]
theorem rises_eq : ∀ {l m : List Bs}, l.Pairwise (fun x y => x < y) → m.Pairwise (fun x y => x < y) → (∀ z, z ∈ l ↔ z ∈ m) → l = m
  | [], [], _, _, _ => rfl
  | [], b :: m, _, _, h => absurd ((h b).2 (by simp)) (by simp)
  | a :: l, [], _, _, h => absurd ((h a).1 (by simp)) (by simp)
  | a :: l, b :: m, hl, hm, h => by
    have h1 := List.pairwise_cons.1 hl
    have h2 := List.pairwise_cons.1 hm
    have e : a = b := by
      rcases List.mem_cons.1 ((h a).1 (by simp)) with e | ha
      · exact e
      · rcases List.mem_cons.1 ((h b).2 (by simp)) with e | hb
        · exact e.symm
        · exact absurd (List.lt_trans (h2.1 a ha) (h1.1 b hb)) (List.lt_irrefl _)
    subst e
    rw [rises_eq h1.2 h2.2 fun z => ⟨fun hz => by
      rcases List.mem_cons.1 ((h z).1 (by simp [hz])) with e | h3
      · subst e; exact absurd (h1.1 _ hz) (List.lt_irrefl _)
      · exact h3, fun hz => by
      rcases List.mem_cons.1 ((h z).2 (by simp [hz])) with e | h3
      · subst e; exact absurd (h2.1 _ hz) (List.lt_irrefl _)
      · exact h3⟩]
theorem abv_det {L : List ClI} {s : Bs} {l l' : List Bs} (h : Abv L s l) (h' : Abv L s l') : l = l' := by
  obtain ⟨⟨l0, rfl, h0⟩, h1⟩ := h
  obtain ⟨⟨l0', rfl, h0'⟩, h1'⟩ := h'
  exact rises_eq (sortB_rises _ h0) (sortB_rises _ h0') fun z => (h1 z).trans (h1' z).symm
open Classical in
noncomputable def linF (L : List ClI) (s : Bs) : List Bs := if h : ∃ l, Lin L s l then h.choose else []
open Classical in
noncomputable def abvF (L : List ClI) (s : Bs) : List Bs := if h : ∃ l, Abv L s l then h.choose else []
theorem linF_eq {L : List ClI} {s : Bs} {l : List Bs} (h : Lin L s l) : linF L s = l := by
  unfold linF
  rw [dif_pos ⟨l, h⟩]
  exact lin_det (Exists.choose_spec (⟨l, h⟩ : ∃ l, Lin L s l)) h
theorem abvF_eq {L : List ClI} {s : Bs} {l : List Bs} (h : Abv L s l) : abvF L s = l := by
  unfold abvF
  rw [dif_pos ⟨l, h⟩]
  exact abv_det (Exists.choose_spec (⟨l, h⟩ : ∃ l, Abv L s l)) h
def metD0 (x : Bs) : List Bs × Bs := (metB x).getD ([], [])
open Classical in
/-- Check's words over a tree of classes L. -/
noncomputable def envOf (L : List ClI) (pool : List CoI) (own gives : Bs) (room : Nat) : Chk where
  known := knownB L
  fits x y := decide (FitsP L x y)
  field x n d := ((linF L x).findSome? (fieldIn L n d)).map fun p => (p.2.flags, p.2.desc)
  meth x n d := ((linF L x ++ abvF L x).findSome? (methIn L n d)).map fun p => p.2.flags
  cls x := (findC L x).map fun c => c.flags
  kind := Ds.kindI
  elem := elemL
  of := ofL
  metD := metD0
  kinds := Nu.knd
  pool := pool
  own := own
  gives := gives
  room := room
theorem tx_mk (x : Bs) : tx x = mk x := rfl
theorem metB_len {x : Bs} {ps : List Bs} {r : Bs} (h : metB x = some (ps, r)) : (∀ t ∈ ps, t.length ≤ x.length) ∧ ps.length ≤ 20 ∧ r.length ≤ x.length := by
  unfold metB at h
  split at h
  · rename_i h40
    split at h
    · cases h
    · rename_i ps' r' hp
      split at h
      · injection h with h
        injection h with h1 h2
        subst h1 h2
        refine parm_ind (fun s acc => s.length ≤ x.length ∧ (∀ t ∈ acc, t.length ≤ x.length) ∧ acc.length ≤ 20) (fun ps r => (∀ t ∈ ps, t.length ≤ x.length) ∧ ps.length ≤ 20 ∧ r.length ≤ x.length) ?_ ?_ (x.drop 1).length (x.drop 1) [] (Nat.le_refl _) ⟨by simp, by simp, by simp⟩ ps' r' hp
        · rintro t acc _ ⟨q1, q2, q3⟩
          exact ⟨q2, q3, by simp; omega⟩
        · rintro t acc _ _ q0 ⟨q1, q2, q3⟩
          refine ⟨by simp; omega, fun u hu => ?_, by simp; omega⟩
          rcases List.mem_append.1 hu with hu | hu
          · exact q2 u hu
          · rw [List.mem_singleton.1 hu]
            simp
            omega
      · cases h
  · cases h
theorem metD0_len (x : Bs) : (∀ t ∈ (metD0 x).1, t.length ≤ x.length) ∧ (metD0 x).1.length ≤ 20 ∧ (metD0 x).2.length ≤ x.length + 1 := by
  unfold metD0
  cases h : metB x with
  | none => exact ⟨by simp, by simp, by simp⟩
  | some p =>
    obtain ⟨ps, r⟩ := p
    obtain ⟨h1, h2, h3⟩ := metB_len h
    exact ⟨h1, h2, by show r.length ≤ _; omega⟩
/-- desc.Method, told with what is wrong. -/
def metER (x : Bs) : Int := if (metB x).isSome then 0 else 21
theorem metD_x (x : Bs) (w : World) (hx : x.length ≤ ML) : Calls Tryz.prog 95 #[.string (tx x)] w fun e w' => ∃ v, e = .returned (.tuple #[v, .string (tx (metD0 x).2), .int .i64 (metER x)]) ∧ w'.ownsRow w.heap.size 9 1 v (metD0 x).1.length ((metD0 x).1.map fun s => .string (tx s)) ∧ Below w.heap.size w w' := by
  refine (Ds.method_any (tx x) w (by rw [tx_size]; unfold ML at hx; unfold maxLen; omega)).mono ?_
  rintro e w' ⟨hb, h⟩
  rw [tx_list] at h
  unfold metD0 metER
  cases hm : metB x with
  | none =>
    rw [hm] at h
    exact ⟨_, h, World.ownsRow_nil _ _ _ _, hb⟩
  | some p =>
    obtain ⟨ps, r⟩ := p
    rw [hm] at h
    obtain ⟨v, h1, h2⟩ := h
    exact ⟨v, h1, h2, hb⟩
section
variable {B tb : Nat} {L : List ClI} {wT : World}
theorem env_of (hT : TreeOK B wT tb L) (hL : L.length ≤ 100) (hSh : Short L) (hN : ∀ z ∈ names L, ¬ Circ L z) (hIn : ∀ s z, s ∈ names L → Rch L s z → z ∈ names L) (hFD : ∀ c ∈ L, ∀ f ∈ c.fields, f.desc.length ≤ 4294967296)
    {pool : List CoI} {own gives : Bs} {room : Nat} (hp : ∀ c ∈ pool, c.text.length ≤ 4294967296 ∧ c.desc.length ≤ 4294967296) (ho : own.length ≤ ML) (hg : gives.length ≤ ML) (hr : room ≤ 20) : Env (envOf L pool own gives room) tb wT where
  known x w hx hb := known_ex B tb L x w (lhid (hT.below hb)) (by unfold ML at hx; unfold maxLen; omega)
  fits x y w hx hy hb := by
    refine (fits_any B tb L x y w (lhid (hT.below hb)) (by unfold ML at hx; omega) (by unfold ML at hy; omega)).mono ?_
    rintro e w' ⟨r, rfl, h1, h2⟩
    refine ⟨?_, h2⟩
    have : r = (envOf L pool own gives room).fits x y := by
      rw [Bool.eq_iff_iff, h1]
      simp [envOf]
    rw [this]
  field x n d w hx hb := by
    refine (field_any B tb L x n d w (lhid (hT.below hb)) (by unfold ML at hx; unfold maxLen; omega) hL (lhid hSh) (lhid hN)).mono ?_
    rintro e w' ⟨o, f, ok, rfl, ⟨l, hl, hf⟩, h2⟩
    refine ⟨⟨o, f.name, ?_⟩, h2⟩
    have hE : (envOf L pool own gives room).field x n d = (l.findSome? (fieldIn L n d)).map fun p => (p.2.flags, p.2.desc) := by
      show (List.findSome? _ (linF L x)).map _ = _
      rw [linF_eq hl]
    rcases hf with ⟨h3, rfl, rfl, rfl⟩ | ⟨h3, rfl⟩
    · rw [hE, h3]; rfl
    · rw [hE, h3]; rfl
  meth x n d w hx hb := by
    refine (meth_any B tb L x n d w (lhid (hT.below hb)) (by unfold ML at hx; unfold maxLen; omega) hL (lhid hSh) (lhid hN) (lhid (fun z hz hr => hIn x z hz hr))).mono ?_
    rintro e w' ⟨o, cs, f, ok, rfl, hE, ⟨l, la, hl, hla, hf⟩, h2⟩
    obtain ⟨a, b, c, rfl, r1, r2, r3⟩ := hE
    obtain ⟨A1, c1, rfl⟩ := r1.shape
    obtain ⟨A2, c2, rfl⟩ := r2.shape
    obtain ⟨A3, c3, rfl⟩ := r3.shape
    refine ⟨⟨o, f.name, f.desc, f.stack, f.locals, A1, A2, A3, f.code.length, f.rows.length, f.frames.length, c1, c2, c3, ?_⟩, h2⟩
    have hE : (envOf L pool own gives room).meth x n d = ((l ++ la).findSome? (methIn L n d)).map fun p => p.2.flags := by
      show (List.findSome? _ (linF L x ++ abvF L x)).map _ = _
      rw [linF_eq hl, abvF_eq hla]
    rcases hf with ⟨h3, rfl, rfl, rfl⟩ | ⟨h3, rfl⟩
    · rw [hE, h3]; rfl
    · rw [hE, h3]; rfl
  cls x w hx hb := by
    refine (class_any B tb L x w (lhid (hT.below hb)) (by unfold ML at hx; unfold maxLen; omega)).mono ?_
    rintro e w' ⟨cs, ok, rfl, ⟨c, ⟨a, p, b, d, rfl, r1, r2, r3, r4⟩, hc⟩, h2⟩
    obtain ⟨A1, c1, rfl⟩ := r1.shape
    obtain ⟨A2, c2, rfl⟩ := r2.shape
    obtain ⟨A3, c3, rfl⟩ := r3.shape
    obtain ⟨A4, c4, rfl⟩ := r4.shape
    refine ⟨⟨c.name, c.super, A1, A2, A3, A4, c.ifaces.length, c.pool.length, c.fields.length, c.methods.length, c1, c2, c3, c4, ?_⟩, h2⟩
    have hE : (envOf L pool own gives room).cls x = (findC L x).map fun c => c.flags := rfl
    rcases hc with ⟨h3, rfl, rfl⟩ | ⟨h3, rfl⟩
    · rw [hE, h3]; rfl
    · rw [hE, h3]; rfl
  kind x w := by
    have := Ds.kind_any (tx x) w
    rw [tx_list] at this
    exact this
  elem x w := by
    have := element_any (tx x) w
    rw [tx_list] at this
    exact this
  of x w hx := by
    have := of_any (tx x) w (by rw [tx_size]; unfold ML at hx; omega)
    rw [tx_list] at this
    exact this
  metD x w hx := by
    refine (metD_x x w hx).mono ?_
    rintro e w' ⟨v, rfl, h1, h2⟩
    exact ⟨v, _, _, rfl, rfl, h1, h2⟩
  kinds c w hc := Nu.kinds_any c ⟨by omega, by omega⟩ w
  l_elem x := by
    show (elemL x).length ≤ _
    unfold elemL
    split
    · simp
    · simp
  l_of x := by
    show (ofL x).length ≤ _
    unfold ofL
    split <;> simp
  l_field x n d := by
    show ((((linF L x).findSome? (fieldIn L n d)).map fun p => (p.2.flags, p.2.desc)).getD (0, [])).2.length ≤ _
    cases h : (linF L x).findSome? (fieldIn L n d) with
    | none => simp
    | some p =>
      obtain ⟨z, hz, h1⟩ := List.exists_of_findSome?_eq_some h
      unfold fieldIn at h1
      split at h1
      · cases h1
      · rename_i c hc
        obtain ⟨f, hf, rfl⟩ := Option.map_eq_some_iff.1 h1
        exact hFD c (findC_some hc).1 f (List.mem_of_find?_eq_some hf)
  l_met := metD0_len
  l_pool := hp
  l_own := ho
  l_gives := hg
  l_room := hr
end
end Go.Proofs.YtpdnonlelocfbaaGreatDoor
/- Package check: what holds of a tree's answers. -/
namespace Go.Proofs.YtpdnonlelocfbaaGreatDoor
open Go.RowKit Go Go.Maps
set_option linter.unusedVariables false
theorem trim_rep {p : Bs} (hp : p.head? ≠ some 91) : ∀ k : Nat, Lib.trimLeftB (List.replicate k 91 ++ p) 91 = p
  | 0 => by
    rw [List.replicate_zero, List.nil_append]
    unfold Lib.trimLeftB
    cases p with
    | nil => rfl
    | cons c r =>
      have : (c == 91) = false := by
        rw [beq_eq_false_iff_ne]
        exact fun e => hp (by rw [e]; rfl)
      rw [List.dropWhile_cons, this]
      rfl
  | k + 1 => by
    have := trim_rep hp k
    unfold Lib.trimLeftB at this ⊢
    rw [List.replicate_succ, List.cons_append, List.dropWhile_cons]
    exact this
theorem plain_head {p : Bs} (h : Plain p) : p.head? ≠ some 91 := by
  rcases h with rfl | rfl | ⟨nm, _, rfl⟩
  · decide
  · decide
  · intro e
    injection e with e
    exact absurd e (by decide)
theorem known_elem {L : List ClI} {x : Bs} (h : knownB L x = true) (hk : Ds.kindI (elemL x) = 3) : knownB L (elemL x) = true := by
  unfold knownB at h ⊢
  rw [Bool.and_eq_true] at h ⊢
  obtain ⟨k, hk8, p, hp, rfl⟩ := (type_iff x).1 h.1
  cases k with
  | zero =>
    rw [List.replicate_zero, List.nil_append] at hk
    have : elemL p = [] := by unfold elemL; rw [if_neg (plain_head hp)]
    rw [this] at hk
    exact absurd hk (by decide)
  | succ k =>
    have e : elemL (List.replicate (k + 1) 91 ++ p) = List.replicate k 91 ++ p := by
      rw [List.replicate_succ, List.cons_append]
      unfold elemL
      simp
    rw [e]
    refine ⟨(type_iff _).2 ⟨k, by omega, p, hp, rfl⟩, ?_⟩
    rw [trim_rep (plain_head hp)] at h ⊢
    exact h.2
theorem known_of {L : List ClI} (hn : ∀ c ∈ L, nameB c.name false = true) {n : Bs} {c : ClI} (h : findC L n = some c) : knownB L (ofL n) = true := by
  have hc := findC_some h
  have hv := hn c hc.1
  rw [hc.2] at hv
  have hlen := (name_len n false hv).1
  have h91 : n.head? ≠ some 91 := by
    intro e
    cases n with
    | nil => cases e
    | cons a r =>
      injection e with e
      subst e
      unfold nameB at hv
      rw [List.all_cons, show okc false 91 = false from by decide] at hv
      simp at hv
  have ho : ofL n = 76 :: n ++ [59] := by unfold ofL; rw [if_neg h91]
  rw [ho]
  have ht : Lib.trimLeftB (76 :: n ++ [59]) 91 = 76 :: n ++ [59] := by
    have := trim_rep (p := 76 :: n ++ [59]) (fun e => by injection e with e; exact absurd e (by decide)) 0
    rwa [List.replicate_zero, List.nil_append] at this
  have hcl : classL (76 :: n ++ [59]) = n := by
    unfold classL
    rw [if_pos (by simp)]
    simp
  unfold knownB
  rw [ht, hcl, h, (type_iff _).2 ⟨0, by omega, 76 :: n ++ [59], .inr (.inr ⟨n, hv, rfl⟩), by simp⟩]
  rfl
theorem own_named : ∀ c ∈ ownL, nameB c.name false = true := by
  intro c hc
  obtain ⟨c0, hc0, rfl⟩ := List.mem_map.1 hc
  simp only [own0, List.mem_cons, List.not_mem_nil, or_false] at hc0
  rcases hc0 with rfl | rfl | rfl | rfl | rfl | rfl | rfl | rfl | rfl | rfl | rfl | rfl | rfl <;> (unfold withM; decide)
theorem all_named {l : List ClI} (h : l.any misB = false) : ∀ c ∈ ownL ++ l, nameB c.name false = true := by
  intro c hc
  rcases List.mem_append.1 hc with hc | hc
  · exact own_named c hc
  · have := List.any_eq_false.1 h c hc
    unfold misB at this
    simpa using this
theorem find_text (l : List ClI) : (findC (ownL ++ l) [83, 116, 114, 105, 110, 103]).isSome = true := by
  unfold findC
  rw [List.find?_append]
  have : (ownL.find? fun c => decide (c.name = [83, 116, 114, 105, 110, 103])).isSome = true := by
    unfold ownL own0
    simp only [List.map_cons, List.find?_cons]
    unfold withM
    decide
  cases h : ownL.find? fun c => decide (c.name = [83, 116, 114, 105, 110, 103]) with
  | none => rw [h] at this; cases this
  | some c => rfl
theorem known_prim {L : List ClI} {x : Bs} (h1 : typeB x = true) (h2 : classL (Lib.trimLeftB x 91) = []) : knownB L x = true := by
  unfold knownB
  rw [h1, h2]
  simp
theorem env_good {l : List ClI} (hm : l.any misB = false) (pool : List CoI) (own gives : Bs) (room : Nat) : (envOf (ownL ++ l) pool own gives room).Good where
  int := show knownB (ownL ++ l) [73] = true from known_prim (by decide) (by decide)
  long := show knownB (ownL ++ l) [74] = true from known_prim (by decide) (by decide)
  ints := show knownB (ownL ++ l) [91, 73] = true from known_prim (by decide) (by decide)
  longs := show knownB (ownL ++ l) [91, 74] = true from known_prim (by decide) (by decide)
  text := by
    show knownB (ownL ++ l) [76, 83, 116, 114, 105, 110, 103, 59] = true
    obtain ⟨c, hc⟩ := Option.isSome_iff_exists.1 (find_text l)
    exact known_of (all_named hm) hc
  none := show Ds.kindI [] = 0 from by decide
  elem t h1 h2 := known_elem h1 h2
  made n f h := by
    obtain ⟨c, hc, _⟩ := Option.map_eq_some_iff.1 h
    exact known_of (all_named hm) hc
end Go.Proofs.YtpdnonlelocfbaaGreatDoor
