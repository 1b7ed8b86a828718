/- Contract of code.Decode. -/
import Derived.Test.YtifheohdgjamnaaCodeRead
import Derived.Test.YtifheohdgjamnaaCodeSame
namespace Go.Proofs.Ytifheohdgjamnaa
open Go.RowKit Go
set_option linter.unusedVariables false

/-- A slice of bytes that can be read, and cut. -/
def Bts (w : World) (v : Value) (L : Bs) : Prop := RdB w v L ∧ ∃ A cap, v = .slice A L.length cap ∧ L.length ≤ cap ∧ cap ≤ maxLen
theorem Bts.below {w w' : World} {v : Value} {L : Bs} (h : Bts w v L) (hb : Below w.heap.size w w') : Bts w' v L := ⟨h.1.below hb, h.2⟩
theorem bN_get {L : Bs} {k : Nat} {b : UInt8} (h : L[k]? = some b) : bN L k = b.toNat := by
  unfold bN
  rw [List.getD_eq_getElem?_getD, h]
  rfl
theorem byt_of {w : World} {A : Option Addr} {cap : Nat} {L : Bs} (h : RdB w (.slice A L.length cap) L) {k : Nat} (hk : k < L.length) : ∃ g o, A = some ⟨g, o, none⟩ ∧ ∀ j, k + j < L.length → w.cell? ⟨g, o + (k + j), none⟩ = some (.int .u8 (bN L (k + j))) := by
  obtain ⟨g, o, rfl, _⟩ := h.at' (List.getElem?_eq_getElem hk)
  refine ⟨g, o, rfl, fun j hj => ?_⟩
  have hx : L[k + j]? = some L[k + j] := List.getElem?_eq_getElem hj
  obtain ⟨g', o', e, hc⟩ := h.at' hx
  injection e with e
  injection e with e1 e2
  subst e1 e2
  have := hc 0 (.int .u8 (L[k + j].toNat : Int)) rfl
  rw [Nat.mul_one] at this
  rw [bN_get hx]
  exact this
theorem byt_at {w : World} {g o k n : Nat} {L : Bs} (h : ∀ j, k + j < L.length → w.cell? ⟨g, o + (k + j), none⟩ = some (.int .u8 (bN L (k + j)))) (hf : k + n ≤ L.length) : Byt w g (o + k) n L k := fun j hj => by
  rw [Nat.add_assoc]
  exact h j (by omega)
/-- What Decode answers: what is wrong, the instructions. -/
def DOut (r : Int × List Cop) (w : World) (e : Ending) (w' : World) : Prop := (∃ v, e = .returned (.tuple #[v, .int .i64 r.1]) ∧ RdO w' v r.2) ∧ Below w.heap.size w w'
theorem dout_no {r : Int × List Cop} {x : Int} {w w' : World} (h : r = (x, [])) (hb : Below w.heap.size w w') : DOut r w (.returned (.tuple #[.slice none 0 0, .int .i64 x])) w' := by
  subst h
  exact ⟨⟨_, rfl, rdl_nil _ _ _ _ _⟩, hb⟩
theorem dout_ok {r : Int × List Cop} {D : List Cop} {v : Value} {w w' : World} (h : r = (0, D)) (hv : RdO w' v D) (hb : Below w.heap.size w w') : DOut r w (.returned (.tuple #[v, .int .i64 0])) w' := by
  subst h
  exact ⟨⟨_, rfl, hv⟩, hb⟩
theorem At.pc {L : Bs} {k : Nat} {D : List Cop} (h : At L k D) : ∀ x ∈ D, ∃ p : Nat, x.pc = p ∧ p < k := fun x hx => by
  obtain ⟨p, rfl, hp⟩ := h.pcs x hx
  exact ⟨p, rfl, hp⟩
theorem allLead_r (v : Value) (D : List Cop) (n : Nat) (b : Bool) (w : World) (h : Hid (RdO w v D)) (hn : n ≤ 4000) (hp : Hid (∀ x ∈ D, ∃ p : Nat, x.pc = p ∧ p < n)) (hb : Hid (b = true ↔ Led D n)) :
    Calls Try.prog 21 #[v, .int .i64 n] w fun e w' => e = .returned (.bool b) ∧ Below w.heap.size w w' := by
  refine (allLead_any v D n w h hn hp).mono ?_
  rintro e w' ⟨⟨r, rfl, hr⟩, hB⟩
  have : r = b := by rw [Bool.eq_iff_iff, hr, hb.out]
  rw [this]
  exact ⟨rfl, hB⟩
theorem allLead_y (v : Value) (D : List Cop) (n : Nat) (w : World) (h : Hid (RdO w v D)) (hn : n ≤ 4000) (hp : Hid (∀ x ∈ D, ∃ p : Nat, x.pc = p ∧ p < n)) (hb : Hid (Led D n)) :
    Calls Try.prog 21 #[v, .int .i64 n] w fun e w' => e = .returned (.bool true) ∧ Below w.heap.size w w' := allLead_r v D n true w h hn hp (lhid ⟨fun _ => hb.out, fun _ => rfl⟩)
theorem allLead_n (v : Value) (D : List Cop) (n : Nat) (w : World) (h : Hid (RdO w v D)) (hn : n ≤ 4000) (hp : Hid (∀ x ∈ D, ∃ p : Nat, x.pc = p ∧ p < n)) (hb : Hid (¬ Led D n)) :
    Calls Try.prog 21 #[v, .int .i64 n] w fun e w' => e = .returned (.bool false) ∧ Below w.heap.size w w' := allLead_r v D n false w h hn hp (lhid ⟨fun e => by simp at e, fun e => absurd e hb.out⟩)
theorem own_snoc {w : World} {B : Nat} {A : Option Addr} {c : Nat} {D : List Cop} {x : Cop} (h : w.ownsRow B 38 4 (.slice A (D.length + 1) c) (D.length + 1) (D.flatMap copE ++ [.int .i64 x.pc, .int .i64 x.code, .int .i64 x.a, .int .i64 x.b])) : OwO w B (.slice A (D ++ [x]).length c) (D ++ [x]) := by
  unfold OwO
  rw [show (D ++ [x]).length = D.length + 1 by simp]
  have e : (D ++ [x]).flatMap copE = D.flatMap copE ++ [.int .i64 x.pc, .int .i64 x.code, .int .i64 x.a, .int .i64 x.b] := by simp [copE]
  rw [e]
  exact h
theorem size_r (c : Int) (n : Nat) (w : World) (h : Hid (szN c = n)) :
    Calls Try.prog 14 #[.int .i64 c] w fun e w' => e = .returned (.int .i64 n) ∧ w = w' := by
  have := size_any c w
  rwa [h.out] at this
set_option maxHeartbeats 8000000 in
set_option maxRecDepth 100000 in
theorem decode_any (L : Bs) (v : Value) (w : World) (h : Hid (Bts w v L)) :
    Calls Try.prog 9 #[v] w (DOut (decR L) w) := by
  obtain ⟨hr, A0, cap, rfl, hcap, hmax⟩ := h.out
  have hlen := hr.len
  have HR := lhid hr
  clear hr h
  by_cases h0 : L.length = 0
  · have e0 : ((L.length : Int) == 0) = true := by rw [beq_iff_eq]; omega
    have HD := lhid (decR_nil L h0)
    clear h0
    go_enter Try.func9, Try.ntmps9
    go_wp2_with fail
    go_ret2
    exact dout_no HD.out (Below.refl _ _)
  have e0 : ((L.length : Int) == 0) = false := by rw [beq_eq_false_iff_ne]; omega
  by_cases h4 : 4000 < L.length
  · have e4 : (4000 : Int) < L.length := by omega
    have HD := lhid (decR_long L h4)
    clear h0 h4
    go_enter Try.func9, Try.ntmps9
    go_wp2_with fail
    go_ret2
    exact dout_no HD.out (Below.refl _ _)
  have e4 : ¬ (4000 : Int) < L.length := by omega
  have HN := lhid h0
  have h4' : L.length ≤ 4000 := by omega
  obtain ⟨i0, hi0, hz0, hz1, hz2⟩ := info_parts infoOp
  clear h0 h4
  go_enter Try.func9, Try.ntmps9
  go_wp2_with fail
  go_loopw [4, 5] (fun v i wr => ∃ (D : List Cop) (A : Option Addr) (c k : Nat), v = .slice A D.length c ∧ i = .int .i64 k ∧ k ≤ L.length ∧ Hid (At L k D) ∧ Hid (OwO wr w.heap.size (.slice A D.length c) D) ∧ Hid (Below w.heap.size w wr)) (fun _ i _ => L.length - (intOf i).toNat)
  case atStart => exact ⟨[], none, 0, 0, rfl, rfl, Nat.zero_le _, lhid (At.start L), lhid (World.ownsRow_nil _ _ _ _), lhid (Below.refl _ _)⟩
  case round =>
    obtain ⟨D, A, c, k, rfl, rfl, hk, HA, HO, HB⟩ := hrel
    by_cases hlt : k < L.length
    · have k3 : (k : Int) < L.length := by omega
      obtain ⟨g, o, rfl, hc⟩ := byt_of (HR.out.below HB.out) hlt
      have c0 : wr.cell? ⟨g, o + k, none⟩ = some (.int .u8 (bN L k)) := hc 0 (by omega)
      obtain ⟨n, hn⟩ : ∃ n, szN (bN L k) = n := ⟨_, rfl⟩
      have HS := lhid hn
      have hn3 : n ≤ 3 := by rw [← hn]; exact szN_le _
      have HC := lhid hc
      clear hc hn
      by_cases hn0 : n = 0
      · have q0 : ((n : Int) == 0) = true := by rw [beq_iff_eq]; omega
        have HD := lhid (decR_none L HN.out h4' (HA.out.fail hlt (.inl (by rw [HS.out]; exact hn0))))
        clear hn0
        have x0 := wr_b L k
        go_wp2_with fail
        with_reducible refine (size_r _ n _ HS).mono ?_
        rintro e w2 ⟨rfl, rfl⟩
        go_wp2_with fail
        go_ret2
        exact dout_no HD.out HB.out
      · have q0 : ((n : Int) == 0) = false := by rw [beq_eq_false_iff_ne]; omega
        have x1' : Hid (wrap64 ((L.length : Int) - k) = L.length - k) := lhid (IntWalk.wrap64_in _ (by omega))
        by_cases hfit : k + n ≤ L.length
        · have q1 : ¬ ((L.length : Int) - k < n) := by omega
          have HA2 := lhid (HA.out.step hlt (by rw [HS.out]; exact hn0) (by rw [HS.out]; exact hfit))
          rw [HS.out] at HA2
          have q3 : ¬ ((k : Int) + n < k) := by omega
          have q5 : k + n ≤ cap := by omega
          have x0 := wr_b L k
          have x1 := x1'.out
          go_wp2_with fail
          with_reducible refine (size_r _ n _ HS).mono ?_
          rintro e w2 ⟨rfl, rfl⟩
          go_wp2_with fail
          with_reducible refine (read_any g (o + k) _ k n L _ (by omega) HS.out hn0 (lhid (byt_at HC.out hfit))).mono ?_
          rintro e w3 ⟨rfl, hb3⟩
          have HO2 := lhid (own_below HO.out hb3)
          have hbw := HB.out.size
          have hbz := hb3.size
          have HB2 := lhid (HB.out.trans (hb3.mono hbw))
          have hDl := HA.out.len
          clear hb3
          go_wp2_with (at_builtin; refine wpList_append_own _ rfl (.tmp 33) (.tmp 42) 24 rfl w.heap.size 38 i0 (.agg #[.int .i64 0, .int .i64 0, .int .i64 0, .int .i64 0]) 4 32 Try.underlying24 hi0 hz0 hz1 hz2 rfl (by decide) (.slice A D.length c) D.length (D.flatMap copE) rfl (HO2.out.alloc _) ⟨w3.heap.size, 0, none⟩ 1 1 [.int .i64 (opAt L k).pc, .int .i64 (opAt L k).code, .int .i64 (opAt L k).a, .int .i64 (opAt L k).b] rfl rfl ?c1 ?c2 ?c3 ?c4 ?c5 ?_)
          case c1 => exact new_cells w3 [.int .i64 (opAt L k).pc, .int .i64 (opAt L k).code, .int .i64 (opAt L k).a, .int .i64 (opAt L k).b] _
          case c2 => intro u hu; simp at hu; rcases hu with rfl | rfl | rfl | rfl <;> simp [Value.oneCell']
          case c3 => unfold maxLen; omega
          case c4 => omega
          case c5 => simp; omega
          intro v' w4 hown hgrow _
          obtain ⟨A', c', rfl⟩ := own_shape hown
          have HO3 := lhid hown
          have hge := own_lt (HO2.out.alloc (.cells #[.int .i64 (opAt L k).pc, .int .i64 (opAt L k).code, .int .i64 (opAt L k).a, .int .i64 (opAt L k).b] 38))
          have HB3 := lhid ((HB2.out.alloc HB2.out.size (.cells #[.int .i64 (opAt L k).pc, .int .i64 (opAt L k).code, .int .i64 (opAt L k).a, .int .i64 (opAt L k).b] 38)).grown hgrow (by have := HB2.out.size; simp; omega) hge)
          clear hown hgrow hge
          go_wp2
          go_roundw
          case rel =>
            refine ⟨D ++ [opAt L k], A', c', k + n, by simp, by go_num, hfit, HA2, lhid (own_snoc HO3.out), HB3⟩
          case measure => simp [intOf]; omega
        · have q1 : (L.length : Int) - k < n := by omega
          have HD := lhid (decR_none L HN.out h4' (HA.out.fail hlt (.inr (by rw [HS.out]; omega))))
          have x0 := wr_b L k
          have x1 := x1'.out
          go_wp2_with fail
          with_reducible refine (size_r _ n _ HS).mono ?_
          rintro e w2 ⟨rfl, rfl⟩
          go_wp2_with fail
          go_ret2
          exact dout_no HD.out HB.out
    · have hkl : k = L.length := by omega
      have k3 : ¬ (k : Int) < L.length := by omega
      have HA' := HA.out
      rw [hkl] at HA'
      have HRUN := lhid HA'.done
      have HPC := lhid HA'.pc
      have HRD := lhid (rdl_own copE_len HO.out (by have := HA.out.len; omega))
      clear HA' hkl
      by_cases hl : Led D L.length
      · have HD := lhid (decR_led L D HN.out h4' HRUN.out hl)
        have HL : Hid (Led D L.length) := lhid hl
        clear hl
        go_wp2_with fail
        with_reducible refine (allLead_y _ D L.length _ HRD h4' HPC HL).mono ?_
        rintro e w3 ⟨rfl, hb3⟩
        have HB2 := lhid (HB.out.trans (hb3.mono HB.out.size))
        have HRD2 := lhid (HRD.out.below hb3)
        clear hb3
        go_wp2_with fail
        go_ret2
        exact dout_ok HD.out HRD2.out HB2.out
      · have HD := lhid (decR_astray L D HN.out h4' HRUN.out hl)
        have HL : Hid (¬ Led D L.length) := lhid hl
        clear hl
        go_wp2_with fail
        with_reducible refine (allLead_n _ D L.length _ HRD h4' HPC HL).mono ?_
        rintro e w3 ⟨rfl, hb3⟩
        have HB2 := lhid (HB.out.trans (hb3.mono HB.out.size))
        clear hb3
        go_wp2_with fail
        go_ret2
        exact dout_no HD.out HB2.out
end Go.Proofs.Ytifheohdgjamnaa
