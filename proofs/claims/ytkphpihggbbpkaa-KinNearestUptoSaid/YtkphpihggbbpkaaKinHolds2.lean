/- Own; the smallest tree; law 07's holds. -/
import Derived.Test.YtkphpihggbbpkaaKinHolds
namespace Go.Proofs.Ytkphpihggbbpkaa
open Go.RowKit Go Go.Maps
set_option linter.unusedVariables false

set_option maxHeartbeats 8000000 in
set_option maxRecDepth 100000 in
theorem own_any (w : World) :
    Calls Try.prog 15 #[] w fun e w' => ∃ A c, e = .returned (.slice A 13 c) ∧ Below w.heap.size w w' := by
  obtain ⟨i0, hi, hz0, hz1, hz2⟩ := info_parts info_st
  go_enter Try.func15, Try.ntmps15
  go_wp2_with fail
  with_reducible refine (ownClasses_any _).mono ?_
  rintro e w1 ⟨v1, rfl, hv, hb⟩
  obtain ⟨A, c1, rfl⟩ := hv.shape
  have H := lhid hv
  have HB1 := lhid hb
  have hws := hb.size
  have hlen : (ownL.length : Int) = 13 := rfl
  have hlenN : ownL.length = 13 := rfl
  clear hv hb
  go_wp2_with fail
  go_loopw [1, 6] (fun v i wr => ∃ (kk : Nat) (xs : List Value), i = .int .i64 kk ∧ kk ≤ ownL.length ∧ Hid (wr.ownsRow w1.heap.size 9 1 v kk xs) ∧ Hid (Below w1.heap.size w1 wr)) (fun _ i _ => ownL.length - (intOf i).toNat)
  case atStart => exact ⟨0, [], rfl, Nat.zero_le _, lhid (World.ownsRow_nil _ _ _ _), lhid (Below.refl _ _)⟩
  case round =>
    obtain ⟨kk, xs, rfl, hkk, HV, HB⟩ := hrel
    have hbs := HB.out.size
    by_cases hlt : kk < ownL.length
    · obtain ⟨x, hx⟩ : ∃ x, ownL[kk]? = some x := ⟨_, List.getElem?_eq_getElem hlt⟩
      obtain ⟨ga, oa, cc, rfl, _, hE, hc⟩ := (H.out.below (keptX_cl _) HB.out).at' hx
      have hc1 := row_cl _ _ _ _ hE
      have HCL := lhid hc1.1
      have HRA : Hid (wr.rangeAt ga (oa + kk * 7) cc) := lhid hc
      have HSZ : Hid ((Try.prog.info? 35).map (·.size) = some cc.length) := lhid (by rw [hc1.1]; exact sz_cl)
      have HSA : Hid ((Try.prog.info? 35).map (·.size) = some cc.toArray.size) := lhid (by simpa using HSZ.out)
      have HALL : Hid (cc.toArray.all (·.oneCell') = true) := lhid (all_oneCell_toArray hc1.2)
      have hth : (wr.alloc (.cells #[.int .i64 0, .string ⟨#[]⟩, .string ⟨#[]⟩, .slice none 0 0, .slice none 0 0, .slice none 0 0, .slice none 0 0] 35)).there wr.heap.size 0 7 := fun j hj => ⟨by
        rw [Nat.zero_add, heap_cell (heap_alloc_new wr _) (Array.getElem?_eq_getElem (by simpa using hj))]; rfl, heap_thaw (heap_alloc_new wr _) _⟩
      have HTA : Hid ((wr.alloc (.cells #[.int .i64 0, .string ⟨#[]⟩, .string ⟨#[]⟩, .slice none 0 0, .slice none 0 0, .slice none 0 0, .slice none 0 0] 35)).there wr.heap.size 0 cc.toArray.size) := lhid (by rw [show cc.toArray.size = 7 by simpa using hc1.1]; exact hth)
      have HRB : Hid (((wr.alloc (.cells #[.int .i64 0, .string ⟨#[]⟩, .string ⟨#[]⟩, .slice none 0 0, .slice none 0 0, .slice none 0 0, .slice none 0 0] 35)).setCells wr.heap.size 0 cc).rangeAt wr.heap.size 0 cc) := lhid (World.rangeAt_setCells_same _ _ _ _ (by rw [hc1.1]; exact hth))
      have HW2 : Hid (Below wr.heap.size wr ((wr.alloc (.cells #[.int .i64 0, .string ⟨#[]⟩, .string ⟨#[]⟩, .slice none 0 0, .slice none 0 0, .slice none 0 0, .slice none 0 0] 35)).setCells wr.heap.size 0 cc)) := lhid (below_cells ((Below.refl wr.heap.size wr).alloc (Nat.le_refl _) _) (Nat.le_refl _) _ _)
      have hsz1 : ((wr.alloc (.cells #[.int .i64 0, .string ⟨#[]⟩, .string ⟨#[]⟩, .slice none 0 0, .slice none 0 0, .slice none 0 0, .slice none 0 0] 35)).setCells wr.heap.size 0 cc).heap.size = wr.heap.size + 1 := by rw [setCells_size]; simp
      have HS1 := lhid hsz1
      have k3 : (kk : Int) < ownL.length := by omega
      have hq1 : ((wr.alloc (.cells #[.int .i64 0, .string ⟨#[]⟩, .string ⟨#[]⟩, .slice none 0 0, .slice none 0 0, .slice none 0 0, .slice none 0 0] 35)).setCells wr.heap.size 0 cc).cell? ⟨wr.heap.size, 1, none⟩ = some (.string (tx x.name)) := by
        obtain ⟨a, p, b, d, rfl, _⟩ := hE
        exact HRB.out 1 _ rfl
      have HV1 := lhid (own_below HV.out HW2.out)
      have HBN := lhid (HB.out.trans (Below.less HW2.out hbs))
      have hss := HS1.out
      clear hx hE hc hc1 hth hsz1 hss
      go_wp2_with (first | (refine wpList_load_mid rfl 35 _ rfl ga (oa + kk * 7) rfl cc _ HRA.out Try.underlying35 (by rfl) HSZ.out ?_) | (refine wpList_store_mid rfl 35 _ _ rfl wr.heap.size 0 cc.toArray rfl rfl HTA.out HSA.out HALL.out ?_) | (at_builtin; refine wpList_append_own _ rfl _ _ 29 rfl w1.heap.size 9 i0 (.string ⟨#[]⟩) 1 16 Try.underlying29 hi hz0 hz1 hz2 rfl (by decide) _ kk xs rfl (HV1.out.alloc _) ⟨((wr.alloc (.cells #[.int .i64 0, .string ⟨#[]⟩, .string ⟨#[]⟩, .slice none 0 0, .slice none 0 0, .slice none 0 0, .slice none 0 0] 35)).setCells wr.heap.size 0 cc).heap.size, 0, none⟩ 1 1 [.string (tx x.name)] rfl rfl (new_cells _ _ _) ?a2 ?a3 ?a4 ?a5 ?_))
      case a2 => simp [Value.oneCell']
      case a3 => unfold maxLen; omega
      case a4 => omega
      case a5 =>
        have := HS1.out
        simp
        omega
      intro v2 w2 hown hgrow hnil
      have HV2 := lhid hown
      have HB2 := lhid (Below.grown (HBN.out.alloc (by have := HS1.out; omega) _) hgrow (by have := HS1.out; simp; omega) (own_lt HV1.out))
      clear hown hgrow hnil hq1
      go_wp2_with fail
      go_roundw
      case rel => exact ⟨kk + 1, _, by go_num, by omega, HV2, HB2⟩
      case measure => simp [intOf]; omega
    · have k3 : ¬ (kk : Int) < ownL.length := by omega
      have e : kk = ownL.length := by omega
      subst e
      rw [hlenN] at HV
      obtain ⟨A2, c2, rfl⟩ := own_shape HV.out
      go_wp2_with fail
      go_ret
      exact ⟨⟨A2, c2, by rfl⟩, HB1.out.trans (Below.less HB.out hws)⟩
/-- No class stands above itself where each one's kin have smaller numbers. -/
theorem rch_rank {L : List ClI} (rank : Bs → Nat) (h : ∀ s, ∀ n ∈ nxt L s, rank n < rank s) {x z : Bs} (hr : Rch L x z) : rank z ≤ rank x := by
  induction hr with
  | refl => exact Nat.le_refl _
  | step h1 _ ih => exact Nat.le_trans ih (Nat.le_of_lt (h _ _ h1))
theorem no_circ {L : List ClI} (rank : Bs → Nat) (h : ∀ s, ∀ n ∈ nxt L s, rank n < rank s) (s : Bs) : ¬ Circ L s := by
  rintro ⟨n, hn, hr⟩
  have := rch_rank rank h hr
  have := h s n hn
  omega
/-- Whoever has kin is one of the classes. -/
theorem nxt_in {L : List ClI} (Q : Bs → List Bs → Bool) (h : ∀ c ∈ L, ∀ n ∈ kinOf L c, Q c.name [n] = true) (s n : Bs) (hn : n ∈ nxt L s) : Q s [n] = true := by
  unfold nxt at hn
  cases hf : findC L s with
  | none => rw [hf] at hn; cases hn
  | some c =>
    rw [hf] at hn
    have := findC_some hf
    rw [← this.2]
    exact h c this.1 n hn
def oneC : List ClI := [⟨0, [97], [69, 120, 99, 101, 112, 116, 105, 111, 110], [], [], [], []⟩]
def rank1 (s : Bs) : Nat := if s = [97] then 4 else if s = [79, 98, 106, 101, 99, 116] then 0 else if s = [84, 104, 114, 111, 119, 97, 98, 108, 101] then 1 else if s = [69, 120, 99, 101, 112, 116, 105, 111, 110] then 2 else 3
theorem one_rank : ∀ s, ∀ n ∈ nxt (ownL ++ oneC) s, rank1 n < rank1 s := by
  intro s n hn
  have := nxt_in (fun s l => decide (∀ n ∈ l, rank1 n < rank1 s)) (by decide) s n hn
  simpa using this
theorem one_new : NewE oneC 0 := by
  refine .inr ⟨by decide, .inr ⟨by decide, .inr ⟨by decide, .inr ⟨?_, .inr ⟨fun s _ => no_circ rank1 one_rank s, rfl⟩⟩⟩⟩⟩
  intro c hc
  simp only [oneC, List.mem_singleton] at hc
  subst hc
  exact ⟨by decide, by decide, fun n hn => by cases hn⟩
theorem newE_fun {l : List ClI} {x y : Int} (h : NewE l x) (k : NewE l y) : x = y := by
  unfold NewE at h k
  rcases h with ⟨h1, rfl⟩ | ⟨h1, ⟨h2, rfl⟩ | ⟨h2, ⟨h3, rfl⟩ | ⟨h3, ⟨h4, rfl⟩ | ⟨h4, ⟨⟨s, hs, h5⟩, rfl⟩ | ⟨h5, rfl⟩⟩⟩⟩⟩ <;>
  rcases k with ⟨k1, rfl⟩ | ⟨k1, ⟨k2, rfl⟩ | ⟨k2, ⟨k3, rfl⟩ | ⟨k3, ⟨k4, rfl⟩ | ⟨k4, ⟨⟨z, hz, k5⟩, rfl⟩ | ⟨k5, rfl⟩⟩⟩⟩⟩ <;>
  first
    | rfl
    | omega
    | exact absurd k3 h3
    | exact absurd h3 k3
    | exact absurd k4 h4
    | exact absurd h4 k4
    | exact absurd h5 (k5 s hs)
    | exact absurd k5 (h5 z hz)
    | (exfalso; rw [h2] at k2; exact Bool.noConfusion k2)
abbrev tA : Bs := [76, 97, 59]
theorem one_find (s : Bs) (c : ClI) (h : findC (ownL ++ oneC) s = some c) : True := trivial
theorem step_by {L : List ClI} {x y z : Bs} (h : (nxt L x).contains y = true) (k : Rch L y z) : Rch L x z := .step (by simpa using h) k
theorem f1 : FitsP (ownL ++ oneC) [76, 97, 59] [76, 84, 104, 114, 111, 119, 97, 98, 108, 101, 59] := by
  refine .inr (.inr (.inr ⟨by decide, ?_⟩))
  unfold RefFits
  rw [if_neg (by decide)]
  refine ⟨by decide, ?_⟩
  exact step_by (y := [69, 120, 99, 101, 112, 116, 105, 111, 110]) (by decide) (step_by (y := [84, 104, 114, 111, 119, 97, 98, 108, 101]) (by decide) (.refl _))
theorem f2 : FitsP (ownL ++ oneC) [91, 76, 97, 59] [91, 76, 79, 98, 106, 101, 99, 116, 59] := by
  refine .inr (.inr (.inr ⟨by decide, ?_⟩))
  unfold RefFits
  rw [if_neg (by decide)]
  refine ⟨by decide, ?_⟩
  exact step_by (y := [69, 120, 99, 101, 112, 116, 105, 111, 110]) (by decide) (step_by (y := [84, 104, 114, 111, 119, 97, 98, 108, 101]) (by decide) (step_by (y := [79, 98, 106, 101, 99, 116]) (by decide) (.refl _)))
theorem f3 : ¬ FitsP (ownL ++ oneC) [91, 73] [91, 76, 79, 98, 106, 101, 99, 116, 59] := by
  rintro (h | h | h | ⟨_, h⟩)
  · exact absurd h (by decide)
  · exact absurd h (by decide)
  · exact absurd h.1 (by decide)
  · unfold RefFits at h
    rw [if_pos (by decide)] at h
    exact absurd h (by decide)
theorem f4 : ¬ FitsP (ownL ++ oneC) [76, 79, 98, 106, 101, 99, 116, 59] [76, 97, 59] := by
  rintro (h | h | h | ⟨_, h⟩)
  · exact absurd h (by decide)
  · exact absurd h (by decide)
  · exact absurd h.1 (by decide)
  · unfold RefFits at h
    rw [if_neg (by decide)] at h
    have := rch_rank rank1 one_rank h.2
    exact absurd this (by decide)
theorem one_short : Short oneC := by
  intro c hc
  simp only [oneC, List.mem_singleton] at hc
  subst hc
  exact ⟨by decide, by decide, fun i hi => by cases hi⟩
set_option maxHeartbeats 8000000 in
set_option maxRecDepth 100000 in
theorem holds_any (w : World) :
    Calls Try.prog 5 #[] w fun e w' => e = .returned (.bool true) ∧ Below w.heap.size w w' := by
  have hO := World.ownsRow_lit (base := w.heap.size) (e := 35) (size := 7) w #[.int .i64 0, .string (tx [97]), .string (tx [69, 120, 99, 101, 112, 116, 105, 111, 110]), .slice none 0 0, .slice none 0 0, .slice none 0 0, .slice none 0 0] 1 (Nat.le_refl _) (by decide) (by decide)
  have hR : RowsE 7 (ClE (fun _ => True) (w.alloc (.cells #[.int .i64 0, .string (tx [97]), .string (tx [69, 120, 99, 101, 112, 116, 105, 111, 110]), .slice none 0 0, .slice none 0 0, .slice none 0 0, .slice none 0 0] 35))) oneC [.int .i64 0, .string (tx [97]), .string (tx [69, 120, 99, 101, 112, 116, 105, 111, 110]), .slice none 0 0, .slice none 0 0, .slice none 0 0, .slice none 0 0] := rowsE_one (a := (⟨0, [97], [69, 120, 99, 101, 112, 116, 105, 111, 110], [], [], [], []⟩ : ClI)) (cl0E _ _ (⟨0, [97], [69, 120, 99, 101, 112, 116, 105, 111, 110], [], [], [], []⟩ : ClI) ⟨rfl, rfl, rfl, rfl⟩) rfl
  have HL : Hid (RdX (fun _ => True) 7 (ClE fun _ => True) (w.alloc (.cells #[.int .i64 0, .string (tx [97]), .string (tx [69, 120, 99, 101, 112, 116, 105, 111, 110]), .slice none 0 0, .slice none 0 0, .slice none 0 0, .slice none 0 0] 35)) (.slice (some ⟨w.heap.size, 0, none⟩) 1 1) oneC) := lhid ((rdX_own (l := oneC) hO (by decide) hR).any fun _ _ => trivial)
  have HB0 : Hid (Below w.heap.size w (w.alloc (.cells #[.int .i64 0, .string (tx [97]), .string (tx [69, 120, 99, 101, 112, 116, 105, 111, 110]), .slice none 0 0, .slice none 0 0, .slice none 0 0, .slice none 0 0] 35))) := lhid ((Below.refl _ _).alloc (Nat.le_refl _) _)
  clear hO hR
  go_enter Try.func5, Try.ntmps5
  go_wp2_with fail
  refine (new_any (fun _ => True) (.slice (some ⟨w.heap.size, 0, none⟩) 1 1) oneC _ HL (lhid one_short)).mono ?_
  rintro e w1 ⟨hb1, x, hx, hcase⟩
  have hx0 := newE_fun hx one_new
  subst hx0
  rcases hcase with ⟨h, _⟩ | ⟨_, tb, rfl, hT⟩
  · exact absurd rfl h
  have HT := lhid hT
  have HB1 := lhid (HB0.out.trans (Below.less hb1 HB0.out.size))
  have hBt := Nat.le_trans HB0.out.size hT.lt
  clear hT hb1 hx
  go_wp2_with fail
  refine (fits_any _ tb (ownL ++ oneC) [76, 97, 59] [76, 84, 104, 114, 111, 119, 97, 98, 108, 101, 59] _ HT (by decide) (by decide)).mono ?_
  rintro e w2 ⟨r, rfl, hr, hb⟩
  have HB2 := lhid (HB1.out.trans (Below.less hb HB1.out.size))
  have HT2 := lhid (HT.out.below hb)
  obtain rfl : r = true := by exact hr.2 f1
  clear hb hr
  go_wp2_with fail
  refine (fits_any _ tb (ownL ++ oneC) [91, 76, 97, 59] [91, 76, 79, 98, 106, 101, 99, 116, 59] _ HT2 (by decide) (by decide)).mono ?_
  rintro e w3 ⟨r, rfl, hr, hb⟩
  have HB3 := lhid (HB2.out.trans (Below.less hb HB2.out.size))
  have HT3 := lhid (HT2.out.below hb)
  obtain rfl : r = true := by exact hr.2 f2
  clear hb hr
  go_wp2_with fail
  refine (fits_any _ tb (ownL ++ oneC) [91, 73] [91, 76, 79, 98, 106, 101, 99, 116, 59] _ HT3 (by decide) (by decide)).mono ?_
  rintro e w4 ⟨r, rfl, hr, hb⟩
  have HB4 := lhid (HB3.out.trans (Below.less hb HB3.out.size))
  have HT4 := lhid (HT3.out.below hb)
  obtain rfl : r = false := by cases r; rfl; exact absurd (hr.1 rfl) f3
  clear hb hr
  go_wp2_with fail
  refine (fits_any _ tb (ownL ++ oneC) [76, 79, 98, 106, 101, 99, 116, 59] [76, 97, 59] _ HT4 (by decide) (by decide)).mono ?_
  rintro e w5 ⟨r, rfl, hr, hb⟩
  have HB5 := lhid (HB4.out.trans (Below.less hb HB4.out.size))
  have HT5 := lhid (HT4.out.below hb)
  obtain rfl : r = false := by cases r; rfl; exact absurd (hr.1 rfl) f4
  clear hb hr
  go_wp2_with fail
  refine (own_any _).mono ?_
  rintro e w6 ⟨A6, c6, rfl, hb6⟩
  have HB6 := lhid (HB5.out.trans (Below.less hb6 HB5.out.size))
  clear hb6
  go_wp2_with fail
  refine (native_any [83, 121, 115] [101, 120, 105, 116] [40, 73, 41, 86] _).mono ?_
  rintro e w7 ⟨rfl, hb7⟩
  have HB7 := lhid (HB6.out.trans (Below.less hb7 HB6.out.size))
  clear hb7
  rw [show natI [83, 121, 115] [101, 120, 105, 116] [40, 73, 41, 86] = 3 by decide]
  go_wp2_with fail
  go_ret
  exact ⟨by rfl, HB7.out⟩
end Go.Proofs.Ytkphpihggbbpkaa
