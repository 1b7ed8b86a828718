/- The machine's own classes and methods. -/
import Derived.Test.YtkphpihggbbpkaaKinClone
import Derived.Test.YtkphpihggbbpkaaKinCopy
import Derived.Deep.MidRow
namespace Go.Proofs.Ytkphpihggbbpkaa
open Go.RowKit Go
set_option linter.unusedVariables false

structure Om where
  cls : Bs
  name : Bs
  desc : Bs
  flags : Int
def ownM : List Om := [
  ⟨[83, 121, 115], [112, 114, 105, 110, 116], [40, 73, 41, 86], 8⟩,
  ⟨[83, 121, 115], [112, 114, 105, 110, 116], [40, 74, 41, 86], 8⟩,
  ⟨[83, 121, 115], [112, 114, 105, 110, 116], [40, 76, 83, 116, 114, 105, 110, 103, 59, 41, 86], 8⟩,
  ⟨[83, 121, 115], [101, 120, 105, 116], [40, 73, 41, 86], 8⟩,
  ⟨[83, 116, 114, 105, 110, 103], [108, 101, 110, 103, 116, 104], [40, 41, 73], 0⟩,
  ⟨[83, 116, 114, 105, 110, 103], [99, 104, 97, 114, 65, 116], [40, 73, 41, 73], 0⟩]
def omE (m : Om) : List Value := [.string (tx m.cls), .string (tx m.name), .string (tx m.desc), .int .i64 m.flags]
def OmE (_ : World) (m : Om) (c : List Value) : Prop := c = omE m
def meO (m : Om) : MeI := ⟨m.flags, m.name, m.desc, 0, 0, [], [], []⟩
def methO (s : Bs) : List MeI := (ownM.filter fun m => decide (m.cls = s)).map meO
/-- The own classes ahead of their methods. -/
def own0 : List ClI := [
  ⟨0, [79, 98, 106, 101, 99, 116], [], [], [], [], []⟩,
  ⟨0, [83, 116, 114, 105, 110, 103], [79, 98, 106, 101, 99, 116], [], [], [], []⟩,
  ⟨0, [83, 121, 115], [79, 98, 106, 101, 99, 116], [], [], [], []⟩,
  ⟨0, [84, 104, 114, 111, 119, 97, 98, 108, 101], [79, 98, 106, 101, 99, 116], [], [], [], []⟩,
  ⟨0, [69, 120, 99, 101, 112, 116, 105, 111, 110], [84, 104, 114, 111, 119, 97, 98, 108, 101], [], [], [], []⟩,
  ⟨0, [78, 117, 108, 108, 70, 97, 117, 108, 116], [69, 120, 99, 101, 112, 116, 105, 111, 110], [], [], [], []⟩,
  ⟨0, [90, 101, 114, 111, 70, 97, 117, 108, 116], [69, 120, 99, 101, 112, 116, 105, 111, 110], [], [], [], []⟩,
  ⟨0, [66, 111, 117, 110, 100, 115, 70, 97, 117, 108, 116], [69, 120, 99, 101, 112, 116, 105, 111, 110], [], [], [], []⟩,
  ⟨0, [83, 105, 122, 101, 70, 97, 117, 108, 116], [69, 120, 99, 101, 112, 116, 105, 111, 110], [], [], [], []⟩,
  ⟨0, [67, 97, 115, 116, 70, 97, 117, 108, 116], [69, 120, 99, 101, 112, 116, 105, 111, 110], [], [], [], []⟩,
  ⟨0, [83, 116, 111, 114, 101, 70, 97, 117, 108, 116], [69, 120, 99, 101, 112, 116, 105, 111, 110], [], [], [], []⟩,
  ⟨0, [77, 101, 109, 111, 114, 121, 70, 97, 117, 108, 116], [84, 104, 114, 111, 119, 97, 98, 108, 101], [], [], [], []⟩,
  ⟨0, [68, 101, 112, 116, 104, 70, 97, 117, 108, 116], [84, 104, 114, 111, 119, 97, 98, 108, 101], [], [], [], []⟩]
def withM (c : ClI) : ClI := { c with methods := methO c.name }
def ownL : List ClI := own0.map withM
theorem rows_flat {α : Type} {k : Nat} {E : α → List Value → Prop} {f : α → List Value} (hE : ∀ a, E a (f a)) (hk : ∀ a, (f a).length = k) : ∀ l : List α, RowsE k E l (l.flatMap f)
  | [] => rowsE_nil _ _
  | a :: l => by
    have := (rowsE_one (hE a) (hk a)).app (rows_flat hE hk l)
    simpa using this
theorem keptX_om (P : Nat → Prop) : KeptX P OmE := keptX_pure _ _ fun _ _ => rfl
set_option maxHeartbeats 4000000 in
set_option maxRecDepth 100000 in
theorem ownMethods_any (w : World) :
    Calls Try.prog 33 #[] w fun e w' => ∃ v, e = .returned v ∧ RdX (fun g => w.heap.size ≤ g) 4 OmE w' v ownM ∧ Below w.heap.size w w' := by
  go_enter Try.func33, Try.ntmps33
  go_wp2_with fail
  go_ret
  have ho := World.ownsRow_lit (base := w.heap.size) (e := 75) (size := 4) w (ownM.flatMap omE).toArray 6 (Nat.le_refl _) (by decide) (by decide)
  have hr := rdX_own (E := OmE) (l := ownM) ho (by decide) (rows_flat (k := 4) (E := OmE _) (f := omE) (fun _ => rfl) (fun _ => rfl) ownM)
  exact ⟨_, rfl, hr.any fun g hg => hg.1, (Below.refl _ _).alloc (Nat.le_refl _) _⟩
theorem row_om : Row1 4 OmE := by rintro w a c rfl; simp [omE, Value.oneCell']
theorem rows_me0 (P : Nat → Prop) (w : World) (m : Om) : MeE P w (meO m) [.int .i64 m.flags, .string (tx m.name), .string (tx m.desc), .int .i64 0, .int .i64 0, .slice none 0 0, .slice none 0 0, .slice none 0 0] :=
  ⟨_, _, _, rfl, rdX_nil _ _ _ _ _ _ (fun _ => rfl), rdX_nil _ _ _ _ _ _ (fun _ => rfl), rdX_nil _ _ _ _ _ _ (fun _ => rfl)⟩
theorem filt_take (s : Bs) (l : List Om) (k : Nat) (x : Om) (h : l[k]? = some x) : ((l.take (k + 1)).filter fun m => decide (m.cls = s)).map meO = ((l.take k).filter fun m => decide (m.cls = s)).map meO ++ if x.cls = s then [meO x] else [] := by
  rw [List.take_add_one, h]
  simp only [Option.toList_some, List.filter_append, List.map_append]
  congr 1
  by_cases e : x.cls = s <;> simp [e]
set_option maxHeartbeats 4000000 in
set_option maxRecDepth 100000 in
theorem methodsOf_any (s : Bs) (w : World) :
    Calls Try.prog 37 #[.string (tx s)] w fun e w' => ∃ v xs, e = .returned v ∧ w'.ownsRow w.heap.size 48 8 v (methO s).length xs ∧ (∀ (P : Nat → Prop) w2, RowsE 8 (MeE P w2) (methO s) xs) ∧ Below w.heap.size w w' := by
  obtain ⟨i0, hi, hz0, hz1, hz2⟩ := info_parts info_me
  go_enter Try.func37, Try.ntmps37
  go_wp2_with fail
  with_reducible refine (ownMethods_any _).mono ?_
  rintro e w1 ⟨v1, rfl, hv, hb⟩
  obtain ⟨A, c1, rfl⟩ := hv.shape
  have H := lhid hv
  have HB1 := lhid hb
  have hws := hb.size
  have hol : ownM.length = 6 := rfl
  have HOL := lhid hol
  clear hv hb hol
  have hlen6 : (ownM.length : Int) = 6 := rfl
  go_wp2_with fail
  go_loopw [3, 8] (fun v i wr => ∃ (kk : Nat) (xs : List Value), i = .int .i64 kk ∧ kk ≤ ownM.length ∧ Hid (wr.ownsRow w1.heap.size 48 8 v (((ownM.take kk).filter fun m => decide (m.cls = s)).map meO).length xs) ∧ Hid (∀ (P : Nat → Prop) w2, RowsE 8 (MeE P w2) (((ownM.take kk).filter fun m => decide (m.cls = s)).map meO) xs) ∧ Hid (Below w1.heap.size w1 wr)) (fun _ i _ => ownM.length - (intOf i).toNat)
  case atStart => exact ⟨0, [], rfl, Nat.zero_le _, lhid (World.ownsRow_nil _ _ _ _), lhid (fun _ _ => rowsE_nil _ _), lhid (Below.refl _ _)⟩
  case round =>
    obtain ⟨kk, xs, rfl, hkk, HV, HR, HB⟩ := hrel
    have HM := lhid (H.out.below (keptX_om _) HB.out)
    by_cases hlt : kk < ownM.length
    · obtain ⟨x, hx⟩ : ∃ x, ownM[kk]? = some x := ⟨_, List.getElem?_eq_getElem hlt⟩
      obtain ⟨ga, oa, cc, rfl, _, hE, hc⟩ := HM.out.at' hx
      have hE' : cc = omE x := hE
      subst hE'
      have c0 : wr.cell? ⟨ga, oa + kk * 4, none⟩ = some (.string (tx x.cls)) := hc 0 _ rfl
      have c1 : wr.cell? ⟨ga, oa + kk * 4 + 1, none⟩ = some (.string (tx x.name)) := hc 1 _ rfl
      have c2 : wr.cell? ⟨ga, oa + kk * 4 + 2, none⟩ = some (.string (tx x.desc)) := hc 2 _ rfl
      have c3 : wr.cell? ⟨ga, oa + kk * 4 + 3, none⟩ = some (.int .i64 x.flags) := hc 3 _ rfl
      have k3 : (kk : Int) < ownM.length := by omega
      have hft := filt_take s ownM kk x hx
      have HFT := lhid hft
      have hbs := HB.out.size
      have hsz : (((ownM.take kk).filter fun m => decide (m.cls = s)).map meO).length ≤ 6 := by
        rw [List.length_map]
        refine Nat.le_trans (List.length_filter_le _ _) ?_
        rw [List.length_take]
        have : ownM.length = 6 := rfl
        omega
      have HSZ := lhid hsz
      have HA : Hid (Below wr.heap.size wr (wr.alloc (.cells #[.string (tx x.cls), .string (tx x.name), .string (tx x.desc), .int .i64 x.flags] 75))) := lhid ((Below.refl _ _).alloc (Nat.le_refl _) _)
      have HB1' := lhid (HB.out.trans (Below.less HA.out hbs))
      have HV1 := lhid (own_below HV.out HA.out)
      clear hx hc hE hft hsz
      by_cases hs : x.cls = s
      · have HS := lhid hs
        have e1 := tx_yes hs
        clear hs
        have HNC := lhid (new_cells (wr.alloc (.cells #[.string (tx x.cls), .string (tx x.name), .string (tx x.desc), .int .i64 x.flags] 75)) [.int .i64 x.flags, .string (tx x.name), .string (tx x.desc), .int .i64 0, .int .i64 0, .slice none 0 0, .slice none 0 0, .slice none 0 0] 48)
        go_wp2_with (at_builtin; go_loud (refine wpList_append_own _ rfl _ _ 33 rfl w1.heap.size 48 i0 (.agg #[.int .i64 0, .string ⟨#[]⟩, .string ⟨#[]⟩, .int .i64 0, .int .i64 0, .slice none 0 0, .slice none 0 0, .slice none 0 0]) 8 128 Try.underlying33 hi hz0 hz1 hz2 rfl (by decide) _ _ xs rfl (HV1.out.alloc _) ⟨wr.heap.size + 1, 0, none⟩ 1 1 [.int .i64 x.flags, .string (tx x.name), .string (tx x.desc), .int .i64 0, .int .i64 0, .slice none 0 0, .slice none 0 0, .slice none 0 0] rfl rfl ?a1 ?a2 ?a3 ?a4 ?a5 ?_))
        case a1 =>
          intro j u hu
          have := HNC.out j u hu
          simpa using this
        case a2 => simp [Value.oneCell']
        case a3 =>
          have := HSZ.out
          unfold maxLen
          omega
        case a4 =>
          have := HSZ.out
          omega
        case a5 => simp; omega
        intro v2 w2 hown hgrow hnil
        have HV2 := lhid hown
        have HB2 := lhid (Below.grown (HB1'.out.alloc (by simp; omega) _) hgrow (by simp; omega) (own_lt HV1.out))
        clear hown hgrow hnil
        go_wp2_with fail
        go_roundw
        case rel => exact ⟨kk + 1, xs ++ [.int .i64 x.flags, .string (tx x.name), .string (tx x.desc), .int .i64 0, .int .i64 0, .slice none 0 0, .slice none 0 0, .slice none 0 0], by go_num, by omega, lhid (by rw [HFT.out, if_pos HS.out, List.length_append]; simpa using HV2.out), lhid (fun P w' => by rw [HFT.out, if_pos HS.out]; exact (HR.out P w').app (rowsE_one (rows_me0 P w' x) rfl)), HB2⟩
        case measure => simp [intOf]; omega
      · have HS := lhid hs
        have e1 := tx_nes hs
        clear hs
        go_wp2_with fail
        go_roundw
        case rel => exact ⟨kk + 1, xs, by go_num, by omega, lhid (by rw [HFT.out, if_neg HS.out, List.append_nil]; exact HV1.out), lhid (by rw [HFT.out, if_neg HS.out, List.append_nil]; exact HR.out), HB1'⟩
        case measure => simp [intOf]; omega
    · have k3 : ¬ (kk : Int) < ownM.length := by omega
      have e : kk = ownM.length := by omega
      subst e
      have ht : ownM.take ownM.length = ownM := List.take_length
      rw [ht] at HV HR
      have HV := lhid (show wr.ownsRow w1.heap.size 48 8 _ (methO s).length xs from HV.out)
      have HR := lhid (show ∀ (P : Nat → Prop) w2, RowsE 8 (MeE P w2) (methO s) xs from HR.out)
      go_wp2_with fail
      go_ret
      exact ⟨_, rfl, xs, own_base HV.out hws, HR.out, HB1.out.trans (Below.less HB.out hws)⟩
theorem CI.cell {α : Type} {T k : Nat} {P : Nat → Prop} {E : World → α → List Value → Prop} (hE : KeptX P E) {w : World} {g cap n : Nat} {l : List α} (hP : ∀ b, P b → b ≠ g) (h : CI T k E w g cap l n) (hn : l.length ≤ n) {i j : Nat} {a a' : α} (hi : l[i]? = some a) (hj : j < k) {v : Value}
    (hnew : ∀ c, E w a c → c.length = k → E w a' (c.set j v)) : CI T k E (w.setCell ⟨g, i * k + j, none⟩ v) g cap (l.set i a') n := by
  obtain ⟨cur, h1, h2, h3⟩ := h
  have hkeep : ∀ b, P b → b < w.heap.size → (w.setCell ⟨g, i * k + j, none⟩ v).heap[b]? = w.heap[b]? := fun b hb _ => Below.heap_setCell _ _ _ _ (hP b hb)
  have hil := (List.getElem?_eq_some_iff.1 hi).1
  refine ⟨_, heap_set h1 v, by simpa using h2, fun i0 x hi0 hx => ?_⟩
  by_cases e : i0 = i
  · subst e
    rw [List.getElem?_set_self hil] at hx
    injection hx with hx
    subst hx
    obtain ⟨c, h4, h5, h6⟩ := h3 i0 a hi0 hi
    refine ⟨c.set j v, hE _ _ _ _ hkeep (hnew c h4 h5), by simpa using h5, fun j0 u hu => ?_⟩
    by_cases e2 : j0 = j
    · subst e2
      rw [List.getElem?_set_self (by omega)] at hu
      injection hu with hu
      subst hu
      have := h6 j0 c[j0] (List.getElem?_eq_getElem (by omega))
      rw [Array.getElem?_setIfInBounds_self, if_pos (Array.getElem?_eq_some_iff.1 this).1]
    · rw [List.getElem?_set_ne (Ne.symm e2)] at hu
      rw [Array.getElem?_setIfInBounds_ne (by omega)]
      exact h6 j0 u hu
  · rw [List.getElem?_set_ne (Ne.symm e)] at hx
    obtain ⟨c, h4, h5, h6⟩ := h3 i0 x hi0 hx
    refine ⟨c, hE _ _ _ _ hkeep h4, h5, fun j0 u hu => ?_⟩
    have hj0 := (List.getElem?_eq_some_iff.1 hu).1
    rw [h5] at hj0
    have hne : i * k + j ≠ i0 * k + j0 := by
      intro e3
      rcases Nat.lt_or_gt_of_ne e with hlt | hgt
      · have := Nat.mul_le_mul_right k (show i0 + 1 ≤ i from hlt)
        rw [Nat.succ_mul] at this
        omega
      · have := Nat.mul_le_mul_right k (show i + 1 ≤ i0 from hgt)
        rw [Nat.succ_mul] at this
        omega
    rw [Array.getElem?_setIfInBounds_ne hne]
    exact h6 j0 u hu
def c0E (c : ClI) : List Value := [.int .i64 c.flags, .string (tx c.name), .string (tx c.super), .slice none 0 0, .slice none 0 0, .slice none 0 0, .slice none 0 0]
def own' (k : Nat) : List ClI := (own0.map withM).take k ++ own0.drop k
theorem set_step {α : Type} : ∀ (l m : List α) (k : Nat) (y : α), l.length = m.length → m[k]? = some y → (m.take k ++ l.drop k).set k y = m.take (k + 1) ++ l.drop (k + 1)
  | [], [], k, y, _, h => by simp at h
  | [], b :: m, k, y, h, _ => by simp at h
  | a :: l, [], k, y, h, _ => by simp at h
  | a :: l, b :: m, 0, y, _, h => by
    simp at h
    subst h
    simp
  | a :: l, b :: m, k + 1, y, h, h2 => by
    have := set_step l m k y (by simpa using h) (by simpa using h2)
    simpa using this
theorem own'_at (k : Nat) (x : ClI) (h : own0[k]? = some x) : (own' k)[k]? = some x ∧ (own' k).set k (withM x) = own' (k + 1) ∧ (own' k).length = 13 := by
  have hk : k < 13 := (List.getElem?_eq_some_iff.1 h).1
  have hl : (own0.map withM).length = 13 := rfl
  have h1 : ((own0.map withM).take k).length = k := by rw [List.length_take, hl]; omega
  refine ⟨?_, ?_, ?_⟩
  · unfold own'
    rw [List.getElem?_append_right (by omega), h1, Nat.sub_self, List.getElem?_drop, Nat.add_zero]
    exact h
  · exact set_step own0 (own0.map withM) k (withM x) rfl (by rw [List.getElem?_map, h]; rfl)
  · unfold own'
    rw [List.length_append, h1, List.length_drop, show own0.length = 13 from rfl]
    omega
theorem cl0E (P : Nat → Prop) (w : World) (c : ClI) (h : c.ifaces = [] ∧ c.pool = [] ∧ c.fields = [] ∧ c.methods = []) : ClE P w c (c0E c) := by
  refine ⟨_, _, _, _, rfl, ?_, ?_, ?_, ?_⟩
  · rw [h.1]; exact rdX_nil _ _ _ _ _ _ (fun _ => rfl)
  · rw [h.2.1]; exact rdX_nil _ _ _ _ _ _ (fun _ => rfl)
  · rw [h.2.2.1]; exact rdX_nil _ _ _ _ _ _ (fun _ => rfl)
  · rw [h.2.2.2]; exact rdX_nil _ _ _ _ _ _ (fun _ => rfl)
theorem own_cells (P : Nat → Prop) (w : World) : CI 35 7 (ClE P) (w.alloc (.cells (own0.flatMap c0E).toArray 35)) w.heap.size 13 (own' 0) 13 := by
  have hr := rows_flat (k := 7) (E := fun c cs => cs = c0E c) (f := c0E) (fun _ => rfl) (fun _ => rfl) own0
  refine ⟨_, heap_alloc_new w _, rfl, fun i a _ hi => ?_⟩
  obtain ⟨c, h1, h2⟩ := hr.2 i a hi
  subst h1
  have ha : a.ifaces = [] ∧ a.pool = [] ∧ a.fields = [] ∧ a.methods = [] := by
    have hall : ∀ c ∈ own0, c.ifaces = [] ∧ c.pool = [] ∧ c.fields = [] ∧ c.methods = [] := by
      intro c hc
      simp only [own0, List.mem_cons, List.not_mem_nil, or_false] at hc
      rcases hc with rfl | rfl | rfl | rfl | rfl | rfl | rfl | rfl | rfl | rfl | rfl | rfl | rfl <;> exact ⟨rfl, rfl, rfl, rfl⟩
    exact hall a (List.mem_of_getElem? hi)
  exact ⟨c0E a, cl0E P _ a ha, rfl, fun j u hj => by simpa using h2 j u hj⟩
end Go.Proofs.Ytkphpihggbbpkaa
