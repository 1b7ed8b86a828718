/- Texts of this claim, joined: FileRef3, FileRef5, FileRef4. -/
import Derived.Test.YtdlmadckpcnkoaaGreatM10
import Derived.Test.YtdlmadckpcnkoaaGreatM11
import Derived.Test.YtdlmadckpcnkoaaGreatM4
/- Contracts of the document's reader of class files: class, member. -/
namespace Go.Proofs.YtdlmadckpcnkoaaGreat
open Go.RowKit Go
set_option linter.unusedVariables false

theorem tx_toList' (l : Bs) : (tx l).toList = l := by rw [Lib.toList_data, tx_list]
theorem tx_cons_size (c : UInt8) (r : Bs) : 0 < (tx (c :: r)).size := by rw [tx_size]; simp
set_option maxHeartbeats 2000000 in
set_option maxRecDepth 100000 in
theorem rclass_any (ρ : Rc) (σ : Sg) (w : World) (h : Hid (Rf ρ σ w)) :
    Calls Tryz.prog 36 #[.pointer (some ⟨ρ.M, 0, none⟩)] w (RO ρ (rCls ρ.L σ).2 (.string (tx (rCls ρ.L σ).1)) w) := by
  obtain ⟨⟨t, τ⟩, ht⟩ : ∃ p, rTxt ρ.L 7 σ = p := ⟨_, rfl⟩
  have HK := lhid ht
  cases t with
  | nil =>
    have HE : Hid (rCls ρ.L σ = ([], τ)) := lhid (by unfold rCls; rw [ht]; rfl)
    have hq : ((tx []).toList == []) = true := by rw [tx_toList']; rfl
    have hq2 : (tx []).toList.isEmpty = true := by rw [tx_toList']; rfl
    clear ht
    go_enter Tryz.func36, Tryz.ntmps36
    go_wp2_with fail
    with_reducible refine (rtext_any ρ σ 7 7 _ h (lhid rfl)).mono ?_
    rintro e w1 ⟨rfl, hr, ho⟩
    rw [HK.out] at hr ⊢
    have HR := lhid hr
    have HO := lhid ho
    clear hr ho
    go_wp2_with fail
    go_ret
    rw [HE.out]
    exact ⟨rfl, HR.out, HO.out⟩
  | cons c r =>
    have hs := tx_cons_size c r
    have hs2 : (0 : Int) < (tx (c :: r)).size := by omega
    have hq : ((tx (c :: r)).toList == []) = false := by rw [tx_toList']; rfl
    have hq2 : (tx (c :: r)).toList.isEmpty = false := by rw [tx_toList']; rfl
    cases hb : (c == 91) with
    | true =>
      have HE : Hid (rCls ρ.L σ = (c :: r, wrS 20 τ)) := lhid (by unfold rCls; rw [ht]; simp only []; rw [if_pos (by simpa using hb)])
      have hx : ((((tx (c :: r))[0]'hs).toNat : Int) == 91) = true := by rw [tx_at]; exact u8_lit c 91 (by omega) _ hb
      clear ht hb
      go_enter Tryz.func36, Tryz.ntmps36
      go_wp2_with fail
      with_reducible refine (rtext_any ρ σ 7 7 _ h (lhid rfl)).mono ?_
      rintro e w1 ⟨rfl, hr, ho⟩
      rw [HK.out] at hr ⊢
      have HR := lhid hr
      have HO := lhid ho
      clear hr ho
      go_wp2_with fail
      with_reducible refine (rwrong_any ρ τ 20 20 (by decide) _ HR (lhid rfl)).mono ?_
      rintro e w2 ⟨rfl, hr, ho⟩
      have HR2 := lhid hr
      have HO2 := lhid (HO.out.trans ho)
      clear hr ho
      go_wp2_with fail
      go_ret
      rw [HE.out]
      exact ⟨rfl, HR2.out, HO2.out⟩
    | false =>
      have HE : Hid (rCls ρ.L σ = (c :: r, τ)) := lhid (by unfold rCls; rw [ht]; simp only []; rw [if_neg (by simpa using hb)])
      have hx : ((((tx (c :: r))[0]'hs).toNat : Int) == 91) = false := by rw [tx_at]; exact u8_lit c 91 (by omega) _ hb
      clear ht hb
      go_enter Tryz.func36, Tryz.ntmps36
      go_wp2_with fail
      with_reducible refine (rtext_any ρ σ 7 7 _ h (lhid rfl)).mono ?_
      rintro e w1 ⟨rfl, hr, ho⟩
      rw [HK.out] at hr ⊢
      have HR := lhid hr
      have HO := lhid ho
      clear hr ho
      go_wp2_with fail
      go_ret
      rw [HE.out]
      exact ⟨rfl, HR.out, HO.out⟩
theorem refNameT (l : Bs) (m r : Bool) (w : World) (h : Hid (nameB l m = r)) (hs : l.length < 65536) :
    Calls Tryz.prog 75 #[.string (tx l), .bool m] w fun e w' => e = .returned (.bool r) ∧ w = w' :=
  refName_r (tx l) m r w (lhid (by rw [tx_list]; exact h.out)) (lhid (tx_maxLen hs))
theorem refTypeT (l : Bs) (r : Bool) (w : World) (h : Hid (typeB l = r)) (hs : l.length < 65536) :
    Calls Tryz.prog 77 #[.string (tx l)] w fun e w' => e = .returned (.bool r) ∧ w = w' :=
  refType_r (tx l) r w (lhid (tx_maxLen hs)) (lhid (by rw [tx_list]; exact h.out))
theorem refMethodT (l : Bs) (r : Bool) (w : World) (h : Hid ((metB l).isSome = r)) (hs : l.length < 65536) :
    Calls Tryz.prog 76 #[.string (tx l)] w fun e w' => (∃ v t, e = .returned (.tuple #[v, .string t, .int .i64 (if r then 0 else 21)])) ∧ Below w.heap.size w w' := by
  refine (refMethod_any (tx l) w (by rw [tx_size]; omega)).mono ?_
  rintro e w' ⟨h1, h2⟩
  rw [tx_list] at h2
  cases hm : metB l with
  | none =>
    rw [hm] at h2
    have := h.out
    rw [hm] at this
    subst this
    exact ⟨⟨_, _, h2⟩, h1⟩
  | some p =>
    obtain ⟨ps, rest⟩ := p
    rw [hm] at h2
    obtain ⟨v, h2, _⟩ := h2
    have := h.out
    rw [hm] at this
    subst this
    exact ⟨⟨v, _, h2⟩, h1⟩
theorem Rf.below {ρ : Rc} {σ : Sg} {w w' : World} (h : Rf ρ σ w) (hb : Below w.heap.size w w') : Rf ρ σ w' :=
  ⟨h.d.below hb, fun h0 => ⟨(h.pool h0).1, below_rows (h.pool h0).2.1 hb, (h.pool h0).2.2⟩, h.good, h.small⟩
end Go.Proofs.YtdlmadckpcnkoaaGreat
/- Contract of the document's types. Written by gen_ref5.py. -/
namespace Go.Proofs.YtdlmadckpcnkoaaGreat
open Go.RowKit Go
set_option linter.unusedVariables false

def tyT (k : Nat) : Bs := if k = 0 then [] else if k = 1 then [73] else if k = 2 then [74] else [78]
def tyLoop (L : List Con) : Nat → List Bs → Sg → List Bs × Sg
  | 0, acc, σ => (acc, σ)
  | n + 1, acc, σ =>
    if σ.1 ≠ 0 then (acc, σ)
    else if 4 < (rNum 1 σ).1 then ([], wrS 60 (rNum 1 σ).2)
    else if (rNum 1 σ).1 < 4 then tyLoop L n (acc ++ [tyT (rNum 1 σ).1]) (rNum 1 σ).2
    else tyLoop L n (acc ++ [ofL (rTxt L 7 (rNum 1 σ).2).1]) (rTxt L 7 (rNum 1 σ).2).2
def rTys (L : List Con) (most : Nat) (σ : Sg) : List Bs × Sg := tyLoop L (rCnt 1 most σ).1 [] (rCnt 1 most σ).2
theorem rCnt_le (n most : Nat) (σ : Sg) : (rCnt n most σ).1 ≤ most := by
  unfold rCnt
  split
  · omega
  · omega
theorem Rf.stay {ρ : Rc} {σ : Sg} {w w' : World} (h : Rf ρ σ w) (ho : Only ρ.M w w') : Stay tC w w' := ho.stay h.d.doc (by show 71 ∉ tC; decide)
theorem Rf.grown {ρ : Rc} {σ : Sg} {w w' : World} {row : Option Nat} (h : Rf ρ σ w) (hg : w.grownBy w' row) (hs : Stay [71, 52] w w') (hr : ∀ k, row = some k → ρ.B ≤ k) : Rf ρ σ w' := by
  have hb : Below ρ.B w w' := ⟨hg.os, hg.tape, hg.output, hg.size, fun k hk => hg.block k (Nat.lt_of_lt_of_le hk h.d.bw) (fun e => by have := hr k e.symm; omega)⟩
  refine ⟨⟨hs _ _ _ _ (by show 71 ∈ _; simp) h.d.doc, h.d.le, h.d.suf, rdB_below h.d.rd h.d.low hb, h.d.base, h.d.low, Nat.le_trans h.d.bw hg.size⟩, fun h0 => ⟨(h.pool h0).1, ?_, (h.pool h0).2.2⟩, h.good, h.small⟩
  obtain ⟨c, h1, h2⟩ := (h.pool h0).2.1
  exact ⟨c, hs _ _ _ _ (by simp) h1, h2⟩
theorem refOfT (l : Bs) (w : World) (hs : l.length < 65536) :
    Calls Tryz.prog 131 #[.string (tx l)] w fun e w' => e = .returned (.string (tx (ofL l))) ∧ w = w' := by
  refine (refOf_any (tx l) w (by rw [tx_size]; omega)).mono ?_
  rintro e w' ⟨rfl, rfl⟩
  refine ⟨?_, rfl⟩
  rw [tx_list]
  rfl
set_option maxHeartbeats 16000000 in
set_option maxRecDepth 100000 in
theorem rtypes_any (ρ : Rc) (σ : Sg) (most : Nat) (m' : Int) (w : World) (h : Hid (Rf ρ σ w)) (hmost : most ≤ 4000) (hm : Hid (m' = most)) :
    Calls Tryz.prog 109 #[.pointer (some ⟨ρ.M, 0, none⟩), .int .i64 m'] w fun e w' => ∃ v, e = .returned v ∧ StrsO w' v (rTys ρ.L most σ).1 ∧ Rf ρ (rTys ρ.L most σ).2 w' ∧ Only ρ.M w w' := by
  have hcl := rCnt_le 1 most σ
  obtain ⟨⟨n, τ⟩, hn⟩ : ∃ p, rCnt 1 most σ = p := ⟨_, rfl⟩
  rw [hn] at hcl
  have hcl' : n ≤ most := hcl
  have HN := lhid hn
  obtain ⟨⟨l0, σ0⟩, hq⟩ : ∃ q, tyLoop ρ.L n [] τ = q := ⟨_, rfl⟩
  have HQ := lhid hq
  have HE : Hid (rTys ρ.L most σ = (l0, σ0)) := lhid (by unfold rTys; rw [hn]; exact hq)
  have hml := h.out.lt
  have hbw := h.out.d.bw
  have HLT : Hid (ρ.M < w.heap.size ∧ ρ.B ≤ w.heap.size) := lhid ⟨hml, hbw⟩
  rw [HE.out]
  clear hq hn hcl
  obtain ⟨i0, hi0, hz0, hz1, hz2⟩ := info_parts infoStr
  go_enter Tryz.func109, Tryz.ntmps109
  go_wp2_with fail
  with_reducible refine (rcount_any ρ σ 1 most 1 m' _ h (by omega) (lhid rfl) hm).mono ?_
  rintro e w0 ⟨rfl, hr, ho⟩
  rw [HN.out] at hr ⊢
  have HR0 := lhid hr
  have HOO := lhid ho
  have hw0 := ho.size
  clear hr ho
  go_wp2_with fail
  go_loopw [5, 7] (fun v i wr => ∃ (acc : List Bs) (σ' : Sg) (A : Option Addr) (c : Nat) (xs : List Value), v = .slice A acc.length c ∧ i = .int .i64 acc.length ∧ acc.length ≤ n ∧ Hid (wr.ownsRow w.heap.size 9 1 (.slice A acc.length c) acc.length xs) ∧ Hid (ListE (StrE wr) acc xs) ∧ Hid (Rf ρ σ' wr) ∧ Hid (Only ρ.M w wr) ∧ Hid (tyLoop ρ.L (n - acc.length) acc σ' = (l0, σ0))) (fun _ i _ => n - (intOf i).toNat)
  case atStart => exact ⟨[], τ, none, 0, [], rfl, rfl, Nat.zero_le _, lhid (World.ownsRow_nil _ _ _ _), lhid rfl, HR0, HOO, HQ⟩
  case round =>
    obtain ⟨acc, σ', A, c, xs, rfl, rfl, hle, HO, HE1, HR, HW, HM⟩ := hrel
    have c4 := HR.out.c4
    by_cases hlt : acc.length < n
    · have hlt2 : (acc.length : Int) < n := by omega
      by_cases h0 : σ'.1 = 0
      · have t0 : ((σ'.1 : Int) == 0) = true := by rw [h0]; rfl
        have H0 := lhid h0
        obtain ⟨⟨k, υ⟩, hk⟩ : ∃ p, rNum 1 σ' = p := ⟨_, rfl⟩
        have HK := lhid hk
        clear hk h0
        by_cases hk4 : 4 < k
        · have t4 : (4 : Int) < k := by omega
          go_wp2_with fail
          with_reducible refine (rnum_any ρ σ' 1 1 _ HR (by omega) (lhid rfl)).mono ?_
          rintro e w1 ⟨rfl, hr, ho⟩
          rw [HK.out] at hr ⊢
          have HR1 := lhid hr
          have HO1 := lhid (HW.out.trans ho)
          clear hr ho
          go_wp2_with fail
          with_reducible refine (rwrong_any ρ υ 60 60 (by decide) _ HR1 (lhid rfl)).mono ?_
          rintro e w2 ⟨rfl, hr, ho⟩
          have HR2 := lhid hr
          have HO2 := lhid (HO1.out.trans ho)
          clear hr ho
          go_wp2_with fail
          go_ret
          have hm2 := HM.out
          rw [show n - acc.length = n - acc.length - 1 + 1 by omega, tyLoop, if_neg (by rw [H0.out]; simp), HK.out, if_pos hk4] at hm2
          injection hm2 with e1 e2
          subst e1 e2
          exact ⟨_, rfl, ⟨[], World.ownsRow_nil _ _ _ _, rfl⟩, HR2.out, HO2.out⟩
        · have t4 : ¬ (4 : Int) < k := by omega
          rcases (show k = 0 ∨ k = 1 ∨ k = 2 ∨ k = 3 ∨ k = 4 by omega) with rfl | rfl | rfl | rfl | rfl
          · go_wp2_with fail
            with_reducible refine (rnum_any ρ σ' 1 1 _ HR (by omega) (lhid rfl)).mono ?_
            rintro e wQ ⟨rfl, hr, ho⟩
            rw [HK.out] at hr ⊢
            have HRQ := lhid hr
            have HOQ := lhid (HW.out.trans ho)
            have HSQ := lhid (HR.out.stay ho)
            have HO2 := lhid (own_stay HO.out HSQ.out (by decide))
            have HE := lhid (HE1.out.imp fun a c => keepsStr tC _ _ a c HSQ.out)
            have hbq := HOQ.out.size
            clear hr ho
            go_wp2_with (at_builtin; refine wpList_append_own _ rfl (.tmp 32) (.tmp 37) 24 rfl w.heap.size 9 i0 (.string ⟨#[]⟩) 1 16 Tryz.underlying24 hi0 hz0 hz1 hz2 rfl (by decide) (.slice A acc.length c) acc.length xs rfl ((HO2.out.alloc (.cells #[.string ⟨#[]⟩, .string ⟨#[73]⟩, .string ⟨#[74]⟩, .string ⟨#[78]⟩] 9)).alloc _) ⟨wQ.heap.size + 1, 0, none⟩ 1 1 [.string (⟨#[]⟩)] rfl rfl ?c1k0 ?c2k0 ?c3k0 ?c4k0 ?c5k0 ?_)
            case c1k0 =>
              have := new_cells (wQ.alloc (.cells #[.string ⟨#[]⟩, .string ⟨#[73]⟩, .string ⟨#[74]⟩, .string ⟨#[78]⟩] 9)) [.string (⟨#[]⟩)] 9
              simpa using this
            case c2k0 => intro u hu; simp at hu; subst hu; rfl
            case c3k0 => unfold maxLen; omega
            case c4k0 => omega
            case c5k0 => simp; omega
            intro v' w2 hown hgrow _
            obtain ⟨A', c', rfl⟩ := own_shape hown
            have HO3 := lhid hown
            have hge := own_lt ((HO2.out.alloc (.cells #[.string ⟨#[]⟩, .string ⟨#[73]⟩, .string ⟨#[74]⟩, .string ⟨#[78]⟩] 9)).alloc (.cells #[.string (⟨#[]⟩)] 9))
            have HR3 := lhid (Rf.grown ((HRQ.out.alloc (.cells #[.string ⟨#[]⟩, .string ⟨#[73]⟩, .string ⟨#[74]⟩, .string ⟨#[78]⟩] 9)).alloc (.cells #[.string (⟨#[]⟩)] 9)) hgrow (grown_stay hgrow ((HO2.out.alloc (.cells #[.string ⟨#[]⟩, .string ⟨#[73]⟩, .string ⟨#[74]⟩, .string ⟨#[78]⟩] 9)).alloc (.cells #[.string (⟨#[]⟩)] 9)) (by decide)) (fun k hk => Nat.le_trans HLT.out.2 (hge k hk)))
            have HW3 := lhid (Only.grown ((HOQ.out.alloc (.cells #[.string ⟨#[]⟩, .string ⟨#[73]⟩, .string ⟨#[74]⟩, .string ⟨#[78]⟩] 9)).alloc (.cells #[.string (⟨#[]⟩)] 9)) hgrow hge)
            clear hown hgrow hge
            go_wp2
            go_roundw
            case rel =>
              refine ⟨acc ++ [([] : Bs)], _, A', c', xs ++ [.string (⟨#[]⟩)], by simp, by simp, by simp; omega, lhid (by simpa using HO3.out), lhid (ListE.snoc (E := StrE w2) rfl HE.out), HR3, HW3, lhid ?_⟩
              rw [← HM.out, show n - acc.length = n - (acc ++ [([] : Bs)]).length + 1 by simp; omega, tyLoop, if_neg (by rw [H0.out]; simp), HK.out]
              simp only []
              rfl
            case measure => simp [intOf]; omega
          · go_wp2_with fail
            with_reducible refine (rnum_any ρ σ' 1 1 _ HR (by omega) (lhid rfl)).mono ?_
            rintro e wQ ⟨rfl, hr, ho⟩
            rw [HK.out] at hr ⊢
            have HRQ := lhid hr
            have HOQ := lhid (HW.out.trans ho)
            have HSQ := lhid (HR.out.stay ho)
            have HO2 := lhid (own_stay HO.out HSQ.out (by decide))
            have HE := lhid (HE1.out.imp fun a c => keepsStr tC _ _ a c HSQ.out)
            have hbq := HOQ.out.size
            clear hr ho
            go_wp2_with (at_builtin; refine wpList_append_own _ rfl (.tmp 32) (.tmp 37) 24 rfl w.heap.size 9 i0 (.string ⟨#[]⟩) 1 16 Tryz.underlying24 hi0 hz0 hz1 hz2 rfl (by decide) (.slice A acc.length c) acc.length xs rfl ((HO2.out.alloc (.cells #[.string ⟨#[]⟩, .string ⟨#[73]⟩, .string ⟨#[74]⟩, .string ⟨#[78]⟩] 9)).alloc _) ⟨wQ.heap.size + 1, 0, none⟩ 1 1 [.string (⟨#[73]⟩)] rfl rfl ?c1k1 ?c2k1 ?c3k1 ?c4k1 ?c5k1 ?_)
            case c1k1 =>
              have := new_cells (wQ.alloc (.cells #[.string ⟨#[]⟩, .string ⟨#[73]⟩, .string ⟨#[74]⟩, .string ⟨#[78]⟩] 9)) [.string (⟨#[73]⟩)] 9
              simpa using this
            case c2k1 => intro u hu; simp at hu; subst hu; rfl
            case c3k1 => unfold maxLen; omega
            case c4k1 => omega
            case c5k1 => simp; omega
            intro v' w2 hown hgrow _
            obtain ⟨A', c', rfl⟩ := own_shape hown
            have HO3 := lhid hown
            have hge := own_lt ((HO2.out.alloc (.cells #[.string ⟨#[]⟩, .string ⟨#[73]⟩, .string ⟨#[74]⟩, .string ⟨#[78]⟩] 9)).alloc (.cells #[.string (⟨#[73]⟩)] 9))
            have HR3 := lhid (Rf.grown ((HRQ.out.alloc (.cells #[.string ⟨#[]⟩, .string ⟨#[73]⟩, .string ⟨#[74]⟩, .string ⟨#[78]⟩] 9)).alloc (.cells #[.string (⟨#[73]⟩)] 9)) hgrow (grown_stay hgrow ((HO2.out.alloc (.cells #[.string ⟨#[]⟩, .string ⟨#[73]⟩, .string ⟨#[74]⟩, .string ⟨#[78]⟩] 9)).alloc (.cells #[.string (⟨#[73]⟩)] 9)) (by decide)) (fun k hk => Nat.le_trans HLT.out.2 (hge k hk)))
            have HW3 := lhid (Only.grown ((HOQ.out.alloc (.cells #[.string ⟨#[]⟩, .string ⟨#[73]⟩, .string ⟨#[74]⟩, .string ⟨#[78]⟩] 9)).alloc (.cells #[.string (⟨#[73]⟩)] 9)) hgrow hge)
            clear hown hgrow hge
            go_wp2
            go_roundw
            case rel =>
              refine ⟨acc ++ [([73] : Bs)], _, A', c', xs ++ [.string (⟨#[73]⟩)], by simp, by simp, by simp; omega, lhid (by simpa using HO3.out), lhid (ListE.snoc (E := StrE w2) rfl HE.out), HR3, HW3, lhid ?_⟩
              rw [← HM.out, show n - acc.length = n - (acc ++ [([73] : Bs)]).length + 1 by simp; omega, tyLoop, if_neg (by rw [H0.out]; simp), HK.out]
              simp only []
              rfl
            case measure => simp [intOf]; omega
          · go_wp2_with fail
            with_reducible refine (rnum_any ρ σ' 1 1 _ HR (by omega) (lhid rfl)).mono ?_
            rintro e wQ ⟨rfl, hr, ho⟩
            rw [HK.out] at hr ⊢
            have HRQ := lhid hr
            have HOQ := lhid (HW.out.trans ho)
            have HSQ := lhid (HR.out.stay ho)
            have HO2 := lhid (own_stay HO.out HSQ.out (by decide))
            have HE := lhid (HE1.out.imp fun a c => keepsStr tC _ _ a c HSQ.out)
            have hbq := HOQ.out.size
            clear hr ho
            go_wp2_with (at_builtin; refine wpList_append_own _ rfl (.tmp 32) (.tmp 37) 24 rfl w.heap.size 9 i0 (.string ⟨#[]⟩) 1 16 Tryz.underlying24 hi0 hz0 hz1 hz2 rfl (by decide) (.slice A acc.length c) acc.length xs rfl ((HO2.out.alloc (.cells #[.string ⟨#[]⟩, .string ⟨#[73]⟩, .string ⟨#[74]⟩, .string ⟨#[78]⟩] 9)).alloc _) ⟨wQ.heap.size + 1, 0, none⟩ 1 1 [.string (⟨#[74]⟩)] rfl rfl ?c1k2 ?c2k2 ?c3k2 ?c4k2 ?c5k2 ?_)
            case c1k2 =>
              have := new_cells (wQ.alloc (.cells #[.string ⟨#[]⟩, .string ⟨#[73]⟩, .string ⟨#[74]⟩, .string ⟨#[78]⟩] 9)) [.string (⟨#[74]⟩)] 9
              simpa using this
            case c2k2 => intro u hu; simp at hu; subst hu; rfl
            case c3k2 => unfold maxLen; omega
            case c4k2 => omega
            case c5k2 => simp; omega
            intro v' w2 hown hgrow _
            obtain ⟨A', c', rfl⟩ := own_shape hown
            have HO3 := lhid hown
            have hge := own_lt ((HO2.out.alloc (.cells #[.string ⟨#[]⟩, .string ⟨#[73]⟩, .string ⟨#[74]⟩, .string ⟨#[78]⟩] 9)).alloc (.cells #[.string (⟨#[74]⟩)] 9))
            have HR3 := lhid (Rf.grown ((HRQ.out.alloc (.cells #[.string ⟨#[]⟩, .string ⟨#[73]⟩, .string ⟨#[74]⟩, .string ⟨#[78]⟩] 9)).alloc (.cells #[.string (⟨#[74]⟩)] 9)) hgrow (grown_stay hgrow ((HO2.out.alloc (.cells #[.string ⟨#[]⟩, .string ⟨#[73]⟩, .string ⟨#[74]⟩, .string ⟨#[78]⟩] 9)).alloc (.cells #[.string (⟨#[74]⟩)] 9)) (by decide)) (fun k hk => Nat.le_trans HLT.out.2 (hge k hk)))
            have HW3 := lhid (Only.grown ((HOQ.out.alloc (.cells #[.string ⟨#[]⟩, .string ⟨#[73]⟩, .string ⟨#[74]⟩, .string ⟨#[78]⟩] 9)).alloc (.cells #[.string (⟨#[74]⟩)] 9)) hgrow hge)
            clear hown hgrow hge
            go_wp2
            go_roundw
            case rel =>
              refine ⟨acc ++ [([74] : Bs)], _, A', c', xs ++ [.string (⟨#[74]⟩)], by simp, by simp, by simp; omega, lhid (by simpa using HO3.out), lhid (ListE.snoc (E := StrE w2) rfl HE.out), HR3, HW3, lhid ?_⟩
              rw [← HM.out, show n - acc.length = n - (acc ++ [([74] : Bs)]).length + 1 by simp; omega, tyLoop, if_neg (by rw [H0.out]; simp), HK.out]
              simp only []
              rfl
            case measure => simp [intOf]; omega
          · go_wp2_with fail
            with_reducible refine (rnum_any ρ σ' 1 1 _ HR (by omega) (lhid rfl)).mono ?_
            rintro e wQ ⟨rfl, hr, ho⟩
            rw [HK.out] at hr ⊢
            have HRQ := lhid hr
            have HOQ := lhid (HW.out.trans ho)
            have HSQ := lhid (HR.out.stay ho)
            have HO2 := lhid (own_stay HO.out HSQ.out (by decide))
            have HE := lhid (HE1.out.imp fun a c => keepsStr tC _ _ a c HSQ.out)
            have hbq := HOQ.out.size
            clear hr ho
            go_wp2_with (at_builtin; refine wpList_append_own _ rfl (.tmp 32) (.tmp 37) 24 rfl w.heap.size 9 i0 (.string ⟨#[]⟩) 1 16 Tryz.underlying24 hi0 hz0 hz1 hz2 rfl (by decide) (.slice A acc.length c) acc.length xs rfl ((HO2.out.alloc (.cells #[.string ⟨#[]⟩, .string ⟨#[73]⟩, .string ⟨#[74]⟩, .string ⟨#[78]⟩] 9)).alloc _) ⟨wQ.heap.size + 1, 0, none⟩ 1 1 [.string (⟨#[78]⟩)] rfl rfl ?c1k3 ?c2k3 ?c3k3 ?c4k3 ?c5k3 ?_)
            case c1k3 =>
              have := new_cells (wQ.alloc (.cells #[.string ⟨#[]⟩, .string ⟨#[73]⟩, .string ⟨#[74]⟩, .string ⟨#[78]⟩] 9)) [.string (⟨#[78]⟩)] 9
              simpa using this
            case c2k3 => intro u hu; simp at hu; subst hu; rfl
            case c3k3 => unfold maxLen; omega
            case c4k3 => omega
            case c5k3 => simp; omega
            intro v' w2 hown hgrow _
            obtain ⟨A', c', rfl⟩ := own_shape hown
            have HO3 := lhid hown
            have hge := own_lt ((HO2.out.alloc (.cells #[.string ⟨#[]⟩, .string ⟨#[73]⟩, .string ⟨#[74]⟩, .string ⟨#[78]⟩] 9)).alloc (.cells #[.string (⟨#[78]⟩)] 9))
            have HR3 := lhid (Rf.grown ((HRQ.out.alloc (.cells #[.string ⟨#[]⟩, .string ⟨#[73]⟩, .string ⟨#[74]⟩, .string ⟨#[78]⟩] 9)).alloc (.cells #[.string (⟨#[78]⟩)] 9)) hgrow (grown_stay hgrow ((HO2.out.alloc (.cells #[.string ⟨#[]⟩, .string ⟨#[73]⟩, .string ⟨#[74]⟩, .string ⟨#[78]⟩] 9)).alloc (.cells #[.string (⟨#[78]⟩)] 9)) (by decide)) (fun k hk => Nat.le_trans HLT.out.2 (hge k hk)))
            have HW3 := lhid (Only.grown ((HOQ.out.alloc (.cells #[.string ⟨#[]⟩, .string ⟨#[73]⟩, .string ⟨#[74]⟩, .string ⟨#[78]⟩] 9)).alloc (.cells #[.string (⟨#[78]⟩)] 9)) hgrow hge)
            clear hown hgrow hge
            go_wp2
            go_roundw
            case rel =>
              refine ⟨acc ++ [([78] : Bs)], _, A', c', xs ++ [.string (⟨#[78]⟩)], by simp, by simp, by simp; omega, lhid (by simpa using HO3.out), lhid (ListE.snoc (E := StrE w2) rfl HE.out), HR3, HW3, lhid ?_⟩
              rw [← HM.out, show n - acc.length = n - (acc ++ [([78] : Bs)]).length + 1 by simp; omega, tyLoop, if_neg (by rw [H0.out]; simp), HK.out]
              simp only []
              rfl
            case measure => simp [intOf]; omega
          · go_wp2_with fail
            with_reducible refine (rnum_any ρ σ' 1 1 _ HR (by omega) (lhid rfl)).mono ?_
            rintro e wQ ⟨rfl, hr, ho⟩
            rw [HK.out] at hr ⊢
            have HRQ := lhid hr
            have HOQ := lhid (HW.out.trans ho)
            have HSQ := lhid (HR.out.stay ho)
            have HO2 := lhid (own_stay HO.out HSQ.out (by decide))
            have HE := lhid (HE1.out.imp fun a c => keepsStr tC _ _ a c HSQ.out)
            have hbq := HOQ.out.size
            clear hr ho
            obtain ⟨⟨t, φ⟩, htx⟩ : ∃ p, rTxt ρ.L 7 υ = p := ⟨_, rfl⟩
            have htl := rTxt_len (k := 7) (σ := υ) HRQ.out.good
            rw [htx] at htl
            have HTX := lhid htx
            clear htx
            go_wp2_with fail
            with_reducible refine (rtext_any ρ υ 7 7 _ HRQ (lhid rfl)).mono ?_
            rintro e wT ⟨rfl, hr, ho⟩
            rw [HTX.out] at hr ⊢
            have HST := lhid (HRQ.out.stay ho)
            have HOT := lhid (HOQ.out.trans ho)
            have HRT := lhid hr
            have HO2T := lhid (own_stay HO2.out HST.out (by decide))
            have HET := lhid (HE.out.imp fun a c => keepsStr tC _ _ a c HST.out)
            have hbt := HOT.out.size
            clear hr ho hbq
            go_wp2_with fail
            with_reducible refine (refOfT t _ htl).mono ?_
            rintro e wz ⟨rfl, rfl⟩
            go_wp2_with (at_builtin; refine wpList_append_own _ rfl (.tmp 39) (.tmp 43) 24 rfl w.heap.size 9 i0 (.string ⟨#[]⟩) 1 16 Tryz.underlying24 hi0 hz0 hz1 hz2 rfl (by decide) (.slice A acc.length c) acc.length xs rfl (HO2T.out.alloc _) ⟨wT.heap.size, 0, none⟩ 1 1 [.string (tx (ofL t))] rfl rfl ?c1k4 ?c2k4 ?c3k4 ?c4k4 ?c5k4 ?_)
            case c1k4 =>
              have := new_cells wT [.string (tx (ofL t))] 9
              simpa using this
            case c2k4 => intro u hu; simp at hu; subst hu; rfl
            case c3k4 => unfold maxLen; omega
            case c4k4 => omega
            case c5k4 => simp; omega
            intro v' w2 hown hgrow _
            obtain ⟨A', c', rfl⟩ := own_shape hown
            have HO3 := lhid hown
            have hge := own_lt (HO2T.out.alloc (.cells #[.string (tx (ofL t))] 9))
            have HR3 := lhid (Rf.grown (HRT.out.alloc (.cells #[.string (tx (ofL t))] 9)) hgrow (grown_stay hgrow (HO2T.out.alloc (.cells #[.string (tx (ofL t))] 9)) (by decide)) (fun k hk => Nat.le_trans HLT.out.2 (hge k hk)))
            have HW3 := lhid (Only.grown (HOT.out.alloc (.cells #[.string (tx (ofL t))] 9)) hgrow hge)
            clear hown hgrow hge
            go_wp2
            go_roundw
            case rel =>
              refine ⟨acc ++ [(ofL t)], _, A', c', xs ++ [.string (tx (ofL t))], by simp, by simp, by simp; omega, lhid (by simpa using HO3.out), lhid (ListE.snoc (E := StrE w2) rfl HET.out), HR3, HW3, lhid ?_⟩
              rw [← HM.out, show n - acc.length = n - (acc ++ [(ofL t)]).length + 1 by simp; omega, tyLoop, if_neg (by rw [H0.out]; simp), HK.out]
              simp only []
              rw [HTX.out]; rfl
            case measure => simp [intOf]; omega
      · have t0 : ((σ'.1 : Int) == 0) = false := by rw [beq_eq_false_iff_ne]; omega
        have H0 := lhid h0
        clear h0
        go_wp2_with fail
        go_ret
        have hm2 := HM.out
        rw [show n - acc.length = n - acc.length - 1 + 1 by omega, tyLoop, if_pos H0.out] at hm2
        injection hm2 with e1 e2
        subst e1 e2
        exact ⟨_, rfl, ⟨xs, own_base HO.out (Nat.zero_le _), HE1.out⟩, HR.out, HW.out⟩
    · have he : acc.length = n := by omega
      have hlt2 : ¬ (acc.length : Int) < n := by omega
      have HEN := lhid he
      clear he
      go_wp2_with fail
      go_ret
      have hm2 := HM.out
      rw [HEN.out, Nat.sub_self] at hm2
      injection hm2 with e1 e2
      subst e1 e2
      exact ⟨_, rfl, ⟨xs, own_base HO.out (Nat.zero_le _), HE1.out⟩, HR.out, HW.out⟩
end Go.Proofs.YtdlmadckpcnkoaaGreat
/- Contract of the document's member. Written by gen_ref4.py. -/
namespace Go.Proofs.YtdlmadckpcnkoaaGreat
open Go.RowKit Go
set_option linter.unusedVariables false

set_option maxHeartbeats 4000000 in
set_option maxRecDepth 100000 in
theorem rmember_bad (m : Bool) (ρ : Rc) (σ τ υ : Sg) (a d : Bs) (w : World) (h : Hid (Rf ρ σ w)) (H1 : Hid (rTxt ρ.L 1 σ = (a, τ))) (H2 : Hid (rTxt ρ.L 1 τ = (d, υ))) (h0 : υ.1 ≠ 0) :
    Calls Tryz.prog 38 #[.pointer (some ⟨ρ.M, 0, none⟩), .bool m] w (RO ρ υ (.tuple #[.string ⟨#[]⟩, .string ⟨#[]⟩]) w) := by
  have t0 : ((υ.1 : Int) != 0) = true := by rw [bne_iff_ne]; omega
  go_enter Tryz.func38, Tryz.ntmps38
  go_wp2_with fail
  with_reducible refine (rtext_any ρ σ 1 1 _ h (lhid rfl)).mono ?_
  rintro e w1 ⟨rfl, hr, ho⟩
  rw [H1.out] at hr ⊢
  have HR := lhid hr
  have HO := lhid ho
  clear hr ho
  go_wp2_with fail
  with_reducible refine (rtext_any ρ τ 1 1 _ HR (lhid rfl)).mono ?_
  rintro e w2 ⟨rfl, hr, ho⟩
  rw [H2.out] at hr ⊢
  have HR2 := lhid hr
  have HO2 := lhid (HO.out.trans ho)
  have c4 := hr.c4
  clear hr ho
  go_wp2_with fail
  go_ret2
  exact ⟨rfl, HR2.out, HO2.out⟩
set_option maxHeartbeats 4000000 in
set_option maxRecDepth 100000 in
theorem rmember_ttt (ρ : Rc) (σ τ υ : Sg) (a d : Bs) (w : World) (h : Hid (Rf ρ σ w)) (H1 : Hid (rTxt ρ.L 1 σ = (a, τ))) (H2 : Hid (rTxt ρ.L 1 τ = (d, υ))) (h0 : υ.1 = 0) (ha : a.length < 65536) (hd : d.length < 65536) (HN : Hid (nameB a true = true)) (HD : Hid ((metB d).isSome = true)) :
    Calls Tryz.prog 38 #[.pointer (some ⟨ρ.M, 0, none⟩), .bool true] w (RO ρ υ (.tuple #[.string (tx a), .string (tx d)]) w) := by
  have t0 : ((υ.1 : Int) != 0) = false := by rw [h0]; rfl
  clear h0
  go_enter Tryz.func38, Tryz.ntmps38
  go_wp2_with fail
  with_reducible refine (rtext_any ρ σ 1 1 _ h (lhid rfl)).mono ?_
  rintro e w1 ⟨rfl, hr, ho⟩
  rw [H1.out] at hr ⊢
  have HR := lhid hr
  have HO := lhid ho
  clear hr ho
  go_wp2_with fail
  with_reducible refine (rtext_any ρ τ 1 1 _ HR (lhid rfl)).mono ?_
  rintro e w2 ⟨rfl, hr, ho⟩
  rw [H2.out] at hr ⊢
  have HR2 := lhid hr
  have HO2 := lhid (HO.out.trans ho)
  have c4 := hr.c4
  clear hr ho
  go_wp2_with fail
  with_reducible refine (refNameT a true true _ HN ha).mono ?_
  rintro e wz ⟨rfl, rfl⟩
  go_wp2_with fail
  with_reducible refine (refMethodT d true _ HD hd).mono ?_
  rintro e w4 ⟨⟨v, t, rfl⟩, hb⟩
  have HR4 := lhid (HR2.out.below hb)
  have HO4 := lhid (HO2.out.trans (Below.only hb))
  clear hb
  go_wp2_with fail
  go_ret2
  exact ⟨rfl, HR4.out, HO4.out⟩
set_option maxHeartbeats 4000000 in
set_option maxRecDepth 100000 in
theorem rmember_ttf (ρ : Rc) (σ τ υ : Sg) (a d : Bs) (w : World) (h : Hid (Rf ρ σ w)) (H1 : Hid (rTxt ρ.L 1 σ = (a, τ))) (H2 : Hid (rTxt ρ.L 1 τ = (d, υ))) (h0 : υ.1 = 0) (ha : a.length < 65536) (hd : d.length < 65536) (HN : Hid (nameB a true = true)) (HD : Hid ((metB d).isSome = false)) :
    Calls Tryz.prog 38 #[.pointer (some ⟨ρ.M, 0, none⟩), .bool true] w (RO ρ (wrS 21 υ) (.tuple #[.string (tx a), .string (tx d)]) w) := by
  have t0 : ((υ.1 : Int) != 0) = false := by rw [h0]; rfl
  clear h0
  go_enter Tryz.func38, Tryz.ntmps38
  go_wp2_with fail
  with_reducible refine (rtext_any ρ σ 1 1 _ h (lhid rfl)).mono ?_
  rintro e w1 ⟨rfl, hr, ho⟩
  rw [H1.out] at hr ⊢
  have HR := lhid hr
  have HO := lhid ho
  clear hr ho
  go_wp2_with fail
  with_reducible refine (rtext_any ρ τ 1 1 _ HR (lhid rfl)).mono ?_
  rintro e w2 ⟨rfl, hr, ho⟩
  rw [H2.out] at hr ⊢
  have HR2 := lhid hr
  have HO2 := lhid (HO.out.trans ho)
  have c4 := hr.c4
  clear hr ho
  go_wp2_with fail
  with_reducible refine (refNameT a true true _ HN ha).mono ?_
  rintro e wz ⟨rfl, rfl⟩
  go_wp2_with fail
  with_reducible refine (refMethodT d false _ HD hd).mono ?_
  rintro e w4 ⟨⟨v, t, rfl⟩, hb⟩
  have HR4 := lhid (HR2.out.below hb)
  have HO4 := lhid (HO2.out.trans (Below.only hb))
  clear hb
  go_wp2_with fail
  with_reducible refine (rwrong_any ρ υ 21 21 (by decide) _ HR4 (lhid rfl)).mono ?_
  rintro e w5 ⟨rfl, hr, ho⟩
  have HR5 := lhid hr
  have HO5 := lhid (HO4.out.trans ho)
  clear hr ho
  go_wp2_with fail
  go_ret2
  exact ⟨rfl, HR5.out, HO5.out⟩
set_option maxHeartbeats 4000000 in
set_option maxRecDepth 100000 in
theorem rmember_tft (ρ : Rc) (σ τ υ : Sg) (a d : Bs) (w : World) (h : Hid (Rf ρ σ w)) (H1 : Hid (rTxt ρ.L 1 σ = (a, τ))) (H2 : Hid (rTxt ρ.L 1 τ = (d, υ))) (h0 : υ.1 = 0) (ha : a.length < 65536) (hd : d.length < 65536) (HN : Hid (nameB a true = false)) (HD : Hid ((metB d).isSome = true)) :
    Calls Tryz.prog 38 #[.pointer (some ⟨ρ.M, 0, none⟩), .bool true] w (RO ρ (wrS 20 υ) (.tuple #[.string (tx a), .string (tx d)]) w) := by
  have t0 : ((υ.1 : Int) != 0) = false := by rw [h0]; rfl
  clear h0
  go_enter Tryz.func38, Tryz.ntmps38
  go_wp2_with fail
  with_reducible refine (rtext_any ρ σ 1 1 _ h (lhid rfl)).mono ?_
  rintro e w1 ⟨rfl, hr, ho⟩
  rw [H1.out] at hr ⊢
  have HR := lhid hr
  have HO := lhid ho
  clear hr ho
  go_wp2_with fail
  with_reducible refine (rtext_any ρ τ 1 1 _ HR (lhid rfl)).mono ?_
  rintro e w2 ⟨rfl, hr, ho⟩
  rw [H2.out] at hr ⊢
  have HR2 := lhid hr
  have HO2 := lhid (HO.out.trans ho)
  have c4 := hr.c4
  clear hr ho
  go_wp2_with fail
  with_reducible refine (refNameT a true false _ HN ha).mono ?_
  rintro e wz ⟨rfl, rfl⟩
  go_wp2_with fail
  with_reducible refine (rwrong_any ρ υ 20 20 (by decide) _ HR2 (lhid rfl)).mono ?_
  rintro e w3 ⟨rfl, hr, ho⟩
  have HR3 := lhid hr
  have HO3 := lhid (HO2.out.trans ho)
  clear hr ho
  go_wp2_with fail
  with_reducible refine (refMethodT d true _ HD hd).mono ?_
  rintro e w4 ⟨⟨v, t, rfl⟩, hb⟩
  have HR4 := lhid (HR3.out.below hb)
  have HO4 := lhid (HO3.out.trans (Below.only hb))
  clear hb
  go_wp2_with fail
  go_ret2
  exact ⟨rfl, HR4.out, HO4.out⟩
set_option maxHeartbeats 4000000 in
set_option maxRecDepth 100000 in
theorem rmember_tff (ρ : Rc) (σ τ υ : Sg) (a d : Bs) (w : World) (h : Hid (Rf ρ σ w)) (H1 : Hid (rTxt ρ.L 1 σ = (a, τ))) (H2 : Hid (rTxt ρ.L 1 τ = (d, υ))) (h0 : υ.1 = 0) (ha : a.length < 65536) (hd : d.length < 65536) (HN : Hid (nameB a true = false)) (HD : Hid ((metB d).isSome = false)) :
    Calls Tryz.prog 38 #[.pointer (some ⟨ρ.M, 0, none⟩), .bool true] w (RO ρ (wrS 21 (wrS 20 υ)) (.tuple #[.string (tx a), .string (tx d)]) w) := by
  have t0 : ((υ.1 : Int) != 0) = false := by rw [h0]; rfl
  clear h0
  go_enter Tryz.func38, Tryz.ntmps38
  go_wp2_with fail
  with_reducible refine (rtext_any ρ σ 1 1 _ h (lhid rfl)).mono ?_
  rintro e w1 ⟨rfl, hr, ho⟩
  rw [H1.out] at hr ⊢
  have HR := lhid hr
  have HO := lhid ho
  clear hr ho
  go_wp2_with fail
  with_reducible refine (rtext_any ρ τ 1 1 _ HR (lhid rfl)).mono ?_
  rintro e w2 ⟨rfl, hr, ho⟩
  rw [H2.out] at hr ⊢
  have HR2 := lhid hr
  have HO2 := lhid (HO.out.trans ho)
  have c4 := hr.c4
  clear hr ho
  go_wp2_with fail
  with_reducible refine (refNameT a true false _ HN ha).mono ?_
  rintro e wz ⟨rfl, rfl⟩
  go_wp2_with fail
  with_reducible refine (rwrong_any ρ υ 20 20 (by decide) _ HR2 (lhid rfl)).mono ?_
  rintro e w3 ⟨rfl, hr, ho⟩
  have HR3 := lhid hr
  have HO3 := lhid (HO2.out.trans ho)
  clear hr ho
  go_wp2_with fail
  with_reducible refine (refMethodT d false _ HD hd).mono ?_
  rintro e w4 ⟨⟨v, t, rfl⟩, hb⟩
  have HR4 := lhid (HR3.out.below hb)
  have HO4 := lhid (HO3.out.trans (Below.only hb))
  clear hb
  go_wp2_with fail
  with_reducible refine (rwrong_any ρ (wrS 20 υ) 21 21 (by decide) _ HR4 (lhid rfl)).mono ?_
  rintro e w5 ⟨rfl, hr, ho⟩
  have HR5 := lhid hr
  have HO5 := lhid (HO4.out.trans ho)
  clear hr ho
  go_wp2_with fail
  go_ret2
  exact ⟨rfl, HR5.out, HO5.out⟩
set_option maxHeartbeats 4000000 in
set_option maxRecDepth 100000 in
theorem rmember_ftt (ρ : Rc) (σ τ υ : Sg) (a d : Bs) (w : World) (h : Hid (Rf ρ σ w)) (H1 : Hid (rTxt ρ.L 1 σ = (a, τ))) (H2 : Hid (rTxt ρ.L 1 τ = (d, υ))) (h0 : υ.1 = 0) (ha : a.length < 65536) (hd : d.length < 65536) (HN : Hid (nameB a false = true)) (q : Bool) (HD : Hid ((metB d).isSome = q)) (HT : Hid (typeB d = true)) :
    Calls Tryz.prog 38 #[.pointer (some ⟨ρ.M, 0, none⟩), .bool false] w (RO ρ υ (.tuple #[.string (tx a), .string (tx d)]) w) := by
  have t0 : ((υ.1 : Int) != 0) = false := by rw [h0]; rfl
  clear h0
  go_enter Tryz.func38, Tryz.ntmps38
  go_wp2_with fail
  with_reducible refine (rtext_any ρ σ 1 1 _ h (lhid rfl)).mono ?_
  rintro e w1 ⟨rfl, hr, ho⟩
  rw [H1.out] at hr ⊢
  have HR := lhid hr
  have HO := lhid ho
  clear hr ho
  go_wp2_with fail
  with_reducible refine (rtext_any ρ τ 1 1 _ HR (lhid rfl)).mono ?_
  rintro e w2 ⟨rfl, hr, ho⟩
  rw [H2.out] at hr ⊢
  have HR2 := lhid hr
  have HO2 := lhid (HO.out.trans ho)
  have c4 := hr.c4
  clear hr ho
  go_wp2_with fail
  with_reducible refine (refNameT a false true _ HN ha).mono ?_
  rintro e wz ⟨rfl, rfl⟩
  go_wp2_with fail
  with_reducible refine (refMethodT d q _ HD hd).mono ?_
  rintro e w4 ⟨⟨v, t, rfl⟩, hb⟩
  have HR4 := lhid (HR2.out.below hb)
  have HO4 := lhid (HO2.out.trans (Below.only hb))
  clear hb
  generalize (if q then (0 : Int) else 21) = ee
  go_wp2_with fail
  with_reducible refine (refTypeT d true _ HT hd).mono ?_
  rintro e wz ⟨rfl, rfl⟩
  go_wp2_with fail
  go_ret2
  exact ⟨rfl, HR4.out, HO4.out⟩
set_option maxHeartbeats 4000000 in
set_option maxRecDepth 100000 in
theorem rmember_ftf (ρ : Rc) (σ τ υ : Sg) (a d : Bs) (w : World) (h : Hid (Rf ρ σ w)) (H1 : Hid (rTxt ρ.L 1 σ = (a, τ))) (H2 : Hid (rTxt ρ.L 1 τ = (d, υ))) (h0 : υ.1 = 0) (ha : a.length < 65536) (hd : d.length < 65536) (HN : Hid (nameB a false = true)) (q : Bool) (HD : Hid ((metB d).isSome = q)) (HT : Hid (typeB d = false)) :
    Calls Tryz.prog 38 #[.pointer (some ⟨ρ.M, 0, none⟩), .bool false] w (RO ρ (wrS 21 υ) (.tuple #[.string (tx a), .string (tx d)]) w) := by
  have t0 : ((υ.1 : Int) != 0) = false := by rw [h0]; rfl
  clear h0
  go_enter Tryz.func38, Tryz.ntmps38
  go_wp2_with fail
  with_reducible refine (rtext_any ρ σ 1 1 _ h (lhid rfl)).mono ?_
  rintro e w1 ⟨rfl, hr, ho⟩
  rw [H1.out] at hr ⊢
  have HR := lhid hr
  have HO := lhid ho
  clear hr ho
  go_wp2_with fail
  with_reducible refine (rtext_any ρ τ 1 1 _ HR (lhid rfl)).mono ?_
  rintro e w2 ⟨rfl, hr, ho⟩
  rw [H2.out] at hr ⊢
  have HR2 := lhid hr
  have HO2 := lhid (HO.out.trans ho)
  have c4 := hr.c4
  clear hr ho
  go_wp2_with fail
  with_reducible refine (refNameT a false true _ HN ha).mono ?_
  rintro e wz ⟨rfl, rfl⟩
  go_wp2_with fail
  with_reducible refine (refMethodT d q _ HD hd).mono ?_
  rintro e w4 ⟨⟨v, t, rfl⟩, hb⟩
  have HR4 := lhid (HR2.out.below hb)
  have HO4 := lhid (HO2.out.trans (Below.only hb))
  clear hb
  generalize (if q then (0 : Int) else 21) = ee
  go_wp2_with fail
  with_reducible refine (refTypeT d false _ HT hd).mono ?_
  rintro e wz ⟨rfl, rfl⟩
  go_wp2_with fail
  with_reducible refine (rwrong_any ρ υ 21 21 (by decide) _ HR4 (lhid rfl)).mono ?_
  rintro e w5 ⟨rfl, hr, ho⟩
  have HR5 := lhid hr
  have HO5 := lhid (HO4.out.trans ho)
  clear hr ho
  go_wp2_with fail
  go_ret2
  exact ⟨rfl, HR5.out, HO5.out⟩
set_option maxHeartbeats 4000000 in
set_option maxRecDepth 100000 in
theorem rmember_fft (ρ : Rc) (σ τ υ : Sg) (a d : Bs) (w : World) (h : Hid (Rf ρ σ w)) (H1 : Hid (rTxt ρ.L 1 σ = (a, τ))) (H2 : Hid (rTxt ρ.L 1 τ = (d, υ))) (h0 : υ.1 = 0) (ha : a.length < 65536) (hd : d.length < 65536) (HN : Hid (nameB a false = false)) (q : Bool) (HD : Hid ((metB d).isSome = q)) (HT : Hid (typeB d = true)) :
    Calls Tryz.prog 38 #[.pointer (some ⟨ρ.M, 0, none⟩), .bool false] w (RO ρ (wrS 20 υ) (.tuple #[.string (tx a), .string (tx d)]) w) := by
  have t0 : ((υ.1 : Int) != 0) = false := by rw [h0]; rfl
  clear h0
  go_enter Tryz.func38, Tryz.ntmps38
  go_wp2_with fail
  with_reducible refine (rtext_any ρ σ 1 1 _ h (lhid rfl)).mono ?_
  rintro e w1 ⟨rfl, hr, ho⟩
  rw [H1.out] at hr ⊢
  have HR := lhid hr
  have HO := lhid ho
  clear hr ho
  go_wp2_with fail
  with_reducible refine (rtext_any ρ τ 1 1 _ HR (lhid rfl)).mono ?_
  rintro e w2 ⟨rfl, hr, ho⟩
  rw [H2.out] at hr ⊢
  have HR2 := lhid hr
  have HO2 := lhid (HO.out.trans ho)
  have c4 := hr.c4
  clear hr ho
  go_wp2_with fail
  with_reducible refine (refNameT a false false _ HN ha).mono ?_
  rintro e wz ⟨rfl, rfl⟩
  go_wp2_with fail
  with_reducible refine (rwrong_any ρ υ 20 20 (by decide) _ HR2 (lhid rfl)).mono ?_
  rintro e w3 ⟨rfl, hr, ho⟩
  have HR3 := lhid hr
  have HO3 := lhid (HO2.out.trans ho)
  clear hr ho
  go_wp2_with fail
  with_reducible refine (refMethodT d q _ HD hd).mono ?_
  rintro e w4 ⟨⟨v, t, rfl⟩, hb⟩
  have HR4 := lhid (HR3.out.below hb)
  have HO4 := lhid (HO3.out.trans (Below.only hb))
  clear hb
  generalize (if q then (0 : Int) else 21) = ee
  go_wp2_with fail
  with_reducible refine (refTypeT d true _ HT hd).mono ?_
  rintro e wz ⟨rfl, rfl⟩
  go_wp2_with fail
  go_ret2
  exact ⟨rfl, HR4.out, HO4.out⟩
set_option maxHeartbeats 4000000 in
set_option maxRecDepth 100000 in
theorem rmember_fff (ρ : Rc) (σ τ υ : Sg) (a d : Bs) (w : World) (h : Hid (Rf ρ σ w)) (H1 : Hid (rTxt ρ.L 1 σ = (a, τ))) (H2 : Hid (rTxt ρ.L 1 τ = (d, υ))) (h0 : υ.1 = 0) (ha : a.length < 65536) (hd : d.length < 65536) (HN : Hid (nameB a false = false)) (q : Bool) (HD : Hid ((metB d).isSome = q)) (HT : Hid (typeB d = false)) :
    Calls Tryz.prog 38 #[.pointer (some ⟨ρ.M, 0, none⟩), .bool false] w (RO ρ (wrS 21 (wrS 20 υ)) (.tuple #[.string (tx a), .string (tx d)]) w) := by
  have t0 : ((υ.1 : Int) != 0) = false := by rw [h0]; rfl
  clear h0
  go_enter Tryz.func38, Tryz.ntmps38
  go_wp2_with fail
  with_reducible refine (rtext_any ρ σ 1 1 _ h (lhid rfl)).mono ?_
  rintro e w1 ⟨rfl, hr, ho⟩
  rw [H1.out] at hr ⊢
  have HR := lhid hr
  have HO := lhid ho
  clear hr ho
  go_wp2_with fail
  with_reducible refine (rtext_any ρ τ 1 1 _ HR (lhid rfl)).mono ?_
  rintro e w2 ⟨rfl, hr, ho⟩
  rw [H2.out] at hr ⊢
  have HR2 := lhid hr
  have HO2 := lhid (HO.out.trans ho)
  have c4 := hr.c4
  clear hr ho
  go_wp2_with fail
  with_reducible refine (refNameT a false false _ HN ha).mono ?_
  rintro e wz ⟨rfl, rfl⟩
  go_wp2_with fail
  with_reducible refine (rwrong_any ρ υ 20 20 (by decide) _ HR2 (lhid rfl)).mono ?_
  rintro e w3 ⟨rfl, hr, ho⟩
  have HR3 := lhid hr
  have HO3 := lhid (HO2.out.trans ho)
  clear hr ho
  go_wp2_with fail
  with_reducible refine (refMethodT d q _ HD hd).mono ?_
  rintro e w4 ⟨⟨v, t, rfl⟩, hb⟩
  have HR4 := lhid (HR3.out.below hb)
  have HO4 := lhid (HO3.out.trans (Below.only hb))
  clear hb
  generalize (if q then (0 : Int) else 21) = ee
  go_wp2_with fail
  with_reducible refine (refTypeT d false _ HT hd).mono ?_
  rintro e wz ⟨rfl, rfl⟩
  go_wp2_with fail
  with_reducible refine (rwrong_any ρ (wrS 20 υ) 21 21 (by decide) _ HR4 (lhid rfl)).mono ?_
  rintro e w5 ⟨rfl, hr, ho⟩
  have HR5 := lhid hr
  have HO5 := lhid (HO4.out.trans ho)
  clear hr ho
  go_wp2_with fail
  go_ret2
  exact ⟨rfl, HR5.out, HO5.out⟩
theorem rmember_any (m : Bool) (ρ : Rc) (σ : Sg) (w : World) (h : Hid (Rf ρ σ w)) :
    Calls Tryz.prog 38 #[.pointer (some ⟨ρ.M, 0, none⟩), .bool m] w (RO ρ (rMem ρ.L m σ).2 (.tuple #[.string (tx (rMem ρ.L m σ).1.1), .string (tx (rMem ρ.L m σ).1.2)]) w) := by
  have ha := rTxt_len (k := 1) (σ := σ) h.out.good
  obtain ⟨⟨a, τ⟩, h1⟩ : ∃ p, rTxt ρ.L 1 σ = p := ⟨_, rfl⟩
  have hd := rTxt_len (k := 1) (σ := τ) h.out.good
  obtain ⟨⟨d, υ⟩, h2⟩ : ∃ p, rTxt ρ.L 1 τ = p := ⟨_, rfl⟩
  rw [h1] at ha
  rw [h2] at hd
  unfold rMem
  rw [h1]
  simp only []
  rw [h2]
  simp only []
  by_cases h0 : υ.1 = 0
  · rw [if_neg (by rw [h0]; simp)]
    unfold memW
    cases m with
    | true =>
      cases hn : nameB a true <;> cases hm : (metB d).isSome
      · simpa using rmember_tff ρ σ τ υ a d w h (lhid h1) (lhid h2) h0 ha hd (lhid hn) (lhid hm)
      · simpa using rmember_tft ρ σ τ υ a d w h (lhid h1) (lhid h2) h0 ha hd (lhid hn) (lhid hm)
      · simpa using rmember_ttf ρ σ τ υ a d w h (lhid h1) (lhid h2) h0 ha hd (lhid hn) (lhid hm)
      · simpa using rmember_ttt ρ σ τ υ a d w h (lhid h1) (lhid h2) h0 ha hd (lhid hn) (lhid hm)
    | false =>
      cases hn : nameB a false <;> cases hm : typeB d
      · simpa using rmember_fff ρ σ τ υ a d w h (lhid h1) (lhid h2) h0 ha hd (lhid hn) _ (lhid rfl) (lhid hm)
      · simpa using rmember_fft ρ σ τ υ a d w h (lhid h1) (lhid h2) h0 ha hd (lhid hn) _ (lhid rfl) (lhid hm)
      · simpa using rmember_ftf ρ σ τ υ a d w h (lhid h1) (lhid h2) h0 ha hd (lhid hn) _ (lhid rfl) (lhid hm)
      · simpa using rmember_ftt ρ σ τ υ a d w h (lhid h1) (lhid h2) h0 ha hd (lhid hn) _ (lhid rfl) (lhid hm)
  · rw [if_pos h0]
    exact rmember_bad m ρ σ τ υ a d w h (lhid h1) (lhid h2) h0
end Go.Proofs.YtdlmadckpcnkoaaGreat
