/- Contract of code.Encode. -/
import Derived.Test.YtifheohdgjamnaaCodeLaid
import Derived.Laws.AppendOwnNone
namespace Go.Proofs.Ytifheohdgjamnaa
open Go.RowKit Go
set_option linter.unusedVariables false

/-- What Encode answers: what is wrong, the bytes. -/
def EOut (r : Int × Bs) (w : World) (e : Ending) (w' : World) : Prop := (∃ v, e = .returned (.tuple #[v, .int .i64 r.1]) ∧ Bts w' v r.2) ∧ Below w.heap.size w w'
theorem bts_nil (w : World) : Bts w (.slice none 0 0) [] := ⟨rdl_nil _ _ _ _ _, none, 0, rfl, Nat.le_refl _, Nat.zero_le _⟩
theorem eout_no {r : Int × Bs} {w w' : World} (h : r = (1, [])) (hb : Below w.heap.size w w') : EOut r w (.returned (.tuple #[.slice none 0 0, .int .i64 1])) w' := by
  subst h
  exact ⟨⟨_, rfl, bts_nil _⟩, hb⟩
theorem eout_ok {r : Int × Bs} {L : Bs} {v : Value} {w w' : World} (h : r = (0, L)) (hv : Bts w' v L) (hb : Below w.heap.size w w') : EOut r w (.returned (.tuple #[v, .int .i64 0])) w' := by
  subst h
  exact ⟨⟨_, rfl, hv⟩, hb⟩
theorem bts_own {w : World} {B : Nat} {v : Value} {l : Bs} (h : OwB w B v l) (hl : l.length ≤ 140737488355328) : Bts w v l := by
  refine ⟨rdl_own bytE_len h hl, ?_⟩
  rcases h.2 with ⟨rfl, h2⟩ | ⟨g, cap, cur, rfl, h2, h3, h4, h5, h6⟩
  · exact ⟨none, 0, by rw [h2], by omega, Nat.zero_le _⟩
  · exact ⟨_, cap, rfl, h4, h5⟩
theorem byts_len (l : Bs) : (l.flatMap bytE).length = l.length := by
  induction l with
  | nil => rfl
  | cons a l ih => rw [List.flatMap_cons, List.length_append, ih, bytE_len]; simp; omega
theorem byts_one (l : Bs) : ∀ u ∈ l.flatMap bytE, u.oneCell' = true := by
  intro u hu
  obtain ⟨b, _, hb⟩ := List.mem_flatMap.1 hu
  simp [bytE] at hb
  subst hb
  rfl
theorem block_cells {w : World} {g T : Nat} {f : Nat × Nat} {l : List Value} (h : w.heap[g]? = some (.cells l.toArray T f)) : ∀ (j : Nat) (u : Value), l[j]? = some u → w.cell? ((⟨g, 0, none⟩ : Addr).add j) = some u := by
  intro j u hu
  have hadd : (⟨g, 0, none⟩ : Addr).add j = ⟨g, j, none⟩ := by unfold Addr.add; split <;> simp_all
  rw [hadd]
  exact heap_cell h (by simpa using hu)
theorem own_app {w : World} {B : Nat} {A : Option Addr} {c n : Nat} {l m : Bs} (h : w.ownsRow B 5 1 (.slice A n c) (l.length + m.length) (l.flatMap bytE ++ m.flatMap bytE)) (hn : n = l.length + m.length) : OwB w B (.slice A (l ++ m).length c) (l ++ m) := by
  unfold OwB
  rw [List.length_append, List.flatMap_append]
  subst hn
  exact h
theorem same_y (v u : Value) (l m : List Cop) (w : World) (h1 : Hid (RdO w v l)) (h2 : Hid (RdO w u m)) (h : Hid (l = m)) :
    Calls Try.prog 25 #[v, u] w fun e w' => e = .returned (.bool true) ∧ Below w.heap.size w w' := by
  refine (same_any v u l m w h1 h2).mono ?_
  rintro e w' ⟨⟨r, rfl, hr⟩, hb⟩
  rw [hr.2 h.out]
  exact ⟨rfl, hb⟩
theorem same_n (v u : Value) (l m : List Cop) (w : World) (h1 : Hid (RdO w v l)) (h2 : Hid (RdO w u m)) (h : Hid (l ≠ m)) :
    Calls Try.prog 25 #[v, u] w fun e w' => e = .returned (.bool false) ∧ Below w.heap.size w w' := by
  refine (same_any v u l m w h1 h2).mono ?_
  rintro e w' ⟨⟨r, rfl, hr⟩, hb⟩
  cases r
  · exact ⟨rfl, hb⟩
  · exact absurd (hr.1 rfl) h.out
set_option maxHeartbeats 8000000 in
set_option maxRecDepth 100000 in
theorem encode_any (l : List Cop) (v : Value) (w : World) (h : Hid (RdO w v l)) :
    Calls Try.prog 12 #[v] w (EOut (encR l) w) := by
  obtain ⟨A0, cA, rfl⟩ := h.out.shape
  have hl := h.out.len
  obtain ⟨i0, hi0, hz0, hz1, hz2⟩ := info_parts infoBy
  go_enter Try.func12, Try.ntmps12
  go_wp2_with fail
  go_loopw [4, 11] (fun b i wr => ∃ (Bt : Bs) (A : Option Addr) (c k : Nat), b = .slice A Bt.length c ∧ i = .int .i64 k ∧ k ≤ l.length ∧ Hid ((l.take k).flatMap laidP = Bt) ∧ Bt.length ≤ 4003 ∧ Hid (OwB wr w.heap.size (.slice A Bt.length c) Bt) ∧ Hid (Below w.heap.size w wr)) (fun _ i _ => l.length - (intOf i).toNat)
  case atStart => exact ⟨[], none, 0, 0, rfl, rfl, Nat.zero_le _, lhid (by simp), Nat.zero_le _, lhid (World.ownsRow_nil _ _ _ _), lhid (Below.refl _ _)⟩
  case round =>
    obtain ⟨Bt, A, c, k, rfl, rfl, hk, HBt, hbl, HO, HB⟩ := hrel
    by_cases hlt : k < l.length
    · obtain ⟨x, hx⟩ : ∃ x, l[k]? = some x := ⟨_, List.getElem?_eq_getElem hlt⟩
      have HX := lhid hx
      obtain ⟨g, o, rfl, hc⟩ := (h.out.below HB.out).at' hx
      obtain ⟨c0, c1, c2, c3⟩ := cell4 hc
      have k3 : (k : Int) < l.length := by omega
      have hb1 := HB.out.alloc HB.out.size (.cells #[.int .i64 x.pc, .int .i64 x.code, .int .i64 x.a, .int .i64 x.b] 38)
      have HB1 := lhid hb1
      clear hx hc hb1
      by_cases h4 : 4000 < Bt.length
      · have k4 : (4000 : Int) < Bt.length := by omega
        have HE := lhid (encR_long (l := l) (k := k) (.inl rfl) (by rw [HBt.out]; exact h4))
        clear h4
        go_wp2_with fail
        go_ret2
        exact eout_no HE.out HB1.out
      · have k4 : ¬ (4000 : Int) < Bt.length := by omega
        have HB2 := lhid (show (l.take (k + 1)).flatMap laidP = Bt ++ laidP x by rw [flat_on HX.out, HBt.out])
        have hxl := laidP_len x
        go_wp2_with fail
        with_reducible refine (laid_any x _).mono ?_
        rintro e w2 ⟨⟨v2, rfl, hv2⟩, hb2⟩
        have hb3 := ((Below.refl wr.heap.size wr).alloc (Nat.le_refl _) (.cells #[.int .i64 x.pc, .int .i64 x.code, .int .i64 x.a, .int .i64 x.b] 38)).trans (hb2.mono (by simp))
        have HO2 := lhid (own_below HO.out hb3)
        have HB3 := lhid (HB.out.trans (hb3.mono HB.out.size))
        have hbs := HB3.out.size
        have HV := lhid hv2
        clear hb2 hb3 hv2
        rcases HV.out with ⟨hn, rfl⟩ | ⟨hn, g2, T2, f2, rfl, hg2⟩
        · have HB4 : Hid ((l.take (k + 1)).flatMap laidP = Bt) := lhid (by rw [HB2.out, hn, List.append_nil])
          clear hn HV
          go_wp2_with (at_builtin; refine wpList_append_own_none rfl (.tmp 18) (.tmp 20) 22 rfl w.heap.size 5 i0 1 Try.underlying22 hi0 (.slice A Bt.length c) Bt.length (Bt.flatMap bytE) rfl HO2.out rfl ?_)
          go_wp2_with fail
          go_roundw
          case rel => exact ⟨Bt, A, c, k + 1, rfl, by go_num, by omega, HB4, by omega, HO2, HB3⟩
          case measure => simp [intOf]; omega
        · have HG := lhid hg2
          have h63 : Bt.length + (laidP x).length ≤ maxLen := by unfold maxLen; omega
          have hby : (Bt.length + (laidP x).length) * 1 ≤ 140737488355328 := by omega
          clear hn hg2 HV
          go_wp2_with (at_builtin; refine wpList_append_own _ rfl (.tmp 18) (.tmp 20) 22 rfl w.heap.size 5 i0 (.int .u8 0) 1 1 Try.underlying22 hi0 hz0 hz1 hz2 rfl (by decide) (.slice A Bt.length c) Bt.length (Bt.flatMap bytE) rfl HO2.out ⟨g2, 0, none⟩ (laidP x).length (laidP x).length ((laidP x).flatMap bytE) rfl (by rw [byts_len, Nat.mul_one]) (block_cells HG.out) (byts_one _) h63 hby hbs ?_)
          intro v' w4 hown hgrow _
          obtain ⟨A', c', rfl⟩ := own_shape hown
          have HO4 := lhid (own_app hown rfl)
          have HB4 := lhid (HB3.out.grown hgrow hbs (own_lt HO2.out))
          clear hown hgrow
          go_wp2
          go_roundw
          case rel => exact ⟨Bt ++ laidP x, A', c', k + 1, by simp, by go_num, by omega, HB2, by simp; omega, HO4, HB4⟩
          case measure => simp [intOf]; omega
    · have k3 : ¬ (k : Int) < l.length := by omega
      have hbt := HBt.out
      rw [List.take_of_length_le (by omega)] at hbt
      have HBT := lhid hbt
      have HV := lhid (bts_own HO.out (by omega))
      obtain ⟨e0, D, hd⟩ : ∃ e0 D, decR Bt = (e0, D) := ⟨_, _, rfl⟩
      have HD := lhid hd
      clear hbt hd HBt
      go_wp2_with fail
      with_reducible refine (decode_any Bt _ _ HV).mono ?_
      rw [HD.out]
      rintro e w2 ⟨⟨v2, rfl, hv2⟩, hb2⟩
      have HV2 := lhid hv2
      have HB2 := lhid (HB.out.trans (hb2.mono HB.out.size))
      have HA2 := lhid ((h.out.below HB.out).below hb2)
      have HBS := lhid (HV.out.below hb2)
      clear hb2 hv2
      by_cases he : e0 = 0
      · have q0 : ((e0 : Int) == 0) = true := by rw [beq_iff_eq]; exact he
        have q1 : ((e0 : Int) != 0) = false := by rw [bne, q0]; rfl
        have HE0 := lhid he
        clear he
        by_cases hs : D = l
        · have HS := lhid hs
          have HE := lhid (encR_ok (L := Bt) (l := l) (by rw [HD.out, HE0.out, HS.out]))
          clear hs
          go_wp2_with fail
          with_reducible refine (same_y _ _ D l _ HV2 HA2 HS).mono ?_
          rintro e w3 ⟨rfl, hb3⟩
          have HB4 := lhid (HB2.out.trans (hb3.mono HB2.out.size))
          have HBS2 := lhid (HBS.out.below hb3)
          clear hb3
          go_wp2_with fail
          go_ret2
          exact eout_ok HE.out HBS2.out HB4.out
        · have HS : Hid (D ≠ l) := lhid hs
          have HE := lhid (encR_other (l := l) (.inl rfl) (by rw [HBT.out, HD.out]; intro e; injection e with _ e2; exact HS.out e2))
          clear hs
          go_wp2_with fail
          with_reducible refine (same_n _ _ D l _ HV2 HA2 HS).mono ?_
          rintro e w3 ⟨rfl, hb3⟩
          have HB4 := lhid (HB2.out.trans (hb3.mono HB2.out.size))
          clear hb3
          go_wp2_with fail
          go_ret2
          exact eout_no HE.out HB4.out
      · have q0 : ((e0 : Int) == 0) = false := by rw [beq_eq_false_iff_ne]; exact he
        have q1 : ((e0 : Int) != 0) = true := by rw [bne, q0]; rfl
        have HNE := lhid he
        have HE := lhid (encR_other (l := l) (.inl rfl) (by rw [HBT.out, HD.out]; intro e; injection e with e1 _; exact HNE.out e1))
        clear he
        go_wp2_with fail
        go_ret2
        exact eout_no HE.out HB2.out
end Go.Proofs.Ytifheohdgjamnaa
