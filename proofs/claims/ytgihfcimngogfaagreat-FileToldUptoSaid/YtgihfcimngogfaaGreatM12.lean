/- Texts of this claim, joined: FileListR, FileListF, FileListG, FileListC, FileKeys. -/
import Derived.Test.YtgihfcimngogfaaGreatM11
namespace Go.Proofs.YtgihfcimngogfaaGreat
open Go.RowKit Go
set_option linter.unusedVariables false
set_option maxHeartbeats 8000000 in
set_option maxRecDepth 100000 in
theorem listR_any (P R g cf : Nat) (L : List Con) (s : Bs) (n : Nat) (w : World) (h : Hid (Rdy w P R g L cf s)) (hn : n ≤ 4000) :
  Calls Tryz.prog 132 #[.int .i64 n, .func (.func 133) #[.pointer (some ⟨P, 0, none⟩)] #[]] w (Out P R g L cf (ListV 88 4 RwE) (manyP (rowP L) n s []) w) := by
 obtain ⟨q, hq⟩ : ∃ q, manyP (rowP L) n s [] = q := ⟨_, rfl⟩
 have HQ := lhid hq
 rw [hq]
 clear hq
 obtain ⟨i0, hi0, hz0, hz1, hz2⟩ := info_parts infoRw
 have hlts := h.out.lts
 have HLT := lhid hlts
 clear hlts
 go_enter Tryz.func132, Tryz.ntmps132
 go_wp2_with fail
 go_loopw [5, 7] (fun v i wr => ∃ (acc : List Rw) (s' : Bs) (A : Option Addr) (c : Nat) (xs : List Value), v = .slice A acc.length c ∧ i = .int .i64 acc.length ∧ acc.length ≤ n ∧ Hid (wr.ownsRow w.heap.size 88 4 (.slice A acc.length c) acc.length xs) ∧ Hid (ListE (RwE wr) acc xs) ∧ Hid (Rdy wr P R g L cf s') ∧ Hid (Only R w wr) ∧ Hid (manyP (rowP L) (n - acc.length) s' acc = q)) (fun _ i _ => n - (intOf i).toNat)
 case atStart => exact ⟨[], s, none, 0, [], rfl, rfl, Nat.zero_le _, lhid (World.ownsRow_nil _ _ _ _), lhid rfl, h, lhid (Only.refl _ _), HQ⟩
 case round =>
  obtain ⟨acc, s', A, c, xs, rfl, rfl, hle, HO, HE, HR, HW, HM⟩ := hrel
  by_cases hlt : acc.length < n
  ·have hlt2 : (acc.length : Int) < n := by omega
   go_wp2_with fail
   with_reducible refine (row_any P R g cf L s' _ HR).mono ?_
   rintro e w1 ho
   have HO1 := lhid (HW.out.trans ho.1)
   have HS := lhid (rdr_stay HR.out.r ho.1)
   cases hp : (rowP L) s' with
   | er x =>
    have hx := ho.er hp
    have HP := lhid hp
    clear ho hp
    obtain rfl := hx
    go_wp2_with fail
    exact ⟨rfl, out_er HO1.out (HM.out.symm.trans (manyP_no _ HP.out hlt))⟩
   | ok a r =>
    have hx := ho.ok hp
    have HP := lhid hp
    clear ho hp
    obtain ⟨v, rfl, hv, hr⟩ := hx
    obtain rfl := hv
    have H1 := lhid hr
    skip
    clear hr
    have HO2 := lhid (own_stay HO.out HS.out (by simp [tC, tM, tF]))
    have HE2 := lhid (HE.out.imp fun a c => keepsRw tC _ _ a c HS.out)
    have HEA : Hid (RwE w1 a [.int .i64 a.fr, .int .i64 a.to, .int .i64 a.at_, .string (tx a.cls)]) := lhid rfl
    have hbw := HO1.out.size
    go_wp2_with (at_builtin; refine wpList_append_own _ rfl (.tmp 9) (.tmp 12) 59 rfl w.heap.size 88 i0 (.agg #[.int .i64 0, .int .i64 0, .int .i64 0, .string ⟨#[]⟩]) 4 40 Tryz.underlying59 hi0 hz0 hz1 hz2 rfl (by decide) (.slice A acc.length c) acc.length xs rfl (HO2.out.alloc _) ⟨w1.heap.size, 0, none⟩ 1 1 [.int .i64 a.fr, .int .i64 a.to, .int .i64 a.at_, .string (tx a.cls)] rfl rfl ?c1 ?c2 ?c3 ?c4 ?c5 ?_)
    case c1 => exact new_cells w1 [.int .i64 a.fr, .int .i64 a.to, .int .i64 a.at_, .string (tx a.cls)] _
    case c2 => intro u hu; simp at hu; rcases hu with rfl | rfl | rfl | rfl <;> simp [Value.oneCell']
    case c3 => unfold maxLen; omega
    case c4 => omega
    case c5 => simp; omega
    intro v' w2 hown hgrow _
    obtain ⟨A', c', rfl⟩ := own_shape hown
    have HO3 := lhid hown
    have hge := own_lt (HO2.out.alloc (.cells #[.int .i64 a.fr, .int .i64 a.to, .int .i64 a.at_, .string (tx a.cls)] 88))
    have HS2 := lhid (((Stay.refl ([] : List TypeId) w1).alloc (.cells #[.int .i64 a.fr, .int .i64 a.to, .int .i64 a.at_, .string (tx a.cls)] 88)).trans (grown_stay hgrow (HO2.out.alloc _) (by simp)))
    have HR2 := lhid ((H1.out.alloc (.cells #[.int .i64 a.fr, .int .i64 a.to, .int .i64 a.at_, .string (tx a.cls)] 88)).grown hgrow (fun k hk => by have := hge k hk; have := HLT.out; omega))
    have HW2 := lhid ((HO1.out.alloc (.cells #[.int .i64 a.fr, .int .i64 a.to, .int .i64 a.at_, .string (tx a.cls)] 88)).grown hgrow hge)
    clear hown hgrow hge
    go_wp2
    go_roundw
    case rel =>
     refine ⟨acc ++ [a], r, A', c', xs ++ [.int .i64 a.fr, .int .i64 a.to, .int .i64 a.at_, .string (tx a.cls)], by simp, by simp, by simp; omega, lhid (by simpa using HO3.out), lhid (ListE.snoc (keepsRw [] _ _ a _ HS2.out HEA.out) (HE2.out.imp fun a c => keepsRw [] _ _ a c HS2.out)), HR2, HW2, lhid ?_⟩
     exact (manyP_on _ HP.out hlt).symm.trans HM.out
    case measure => simp [intOf]; omega
  ·have he : acc.length = n := by omega
   have hlt2 : ¬ (acc.length : Int) < n := by omega
   have HN := lhid he
   clear he
   go_wp2_with fail
   go_ret
   exact out_ok (a := acc) (r := s') HW.out (HM.out.symm.trans (manyP_end _ HN.out)) ⟨xs, own_base HO.out (Nat.zero_le _), HE.out⟩ HR.out
end Go.Proofs.YtgihfcimngogfaaGreat
namespace Go.Proofs.YtgihfcimngogfaaGreat
open Go.RowKit Go
set_option linter.unusedVariables false
set_option maxHeartbeats 8000000 in
set_option maxRecDepth 100000 in
theorem listF_any (P R g cf : Nat) (L : List Con) (s : Bs) (n : Nat) (w : World) (h : Hid (Rdy w P R g L cf s)) (hn : n ≤ 4000) :
  Calls Tryz.prog 134 #[.int .i64 n, .func (.func 135) #[.pointer (some ⟨P, 0, none⟩)] #[]] w (Out P R g L cf (ListV 74 3 FrmE) (manyP (frmP L) n s []) w) := by
 obtain ⟨q, hq⟩ : ∃ q, manyP (frmP L) n s [] = q := ⟨_, rfl⟩
 have HQ := lhid hq
 rw [hq]
 clear hq
 obtain ⟨i0, hi0, hz0, hz1, hz2⟩ := info_parts infoFrm
 have hlts := h.out.lts
 have HLT := lhid hlts
 clear hlts
 go_enter Tryz.func134, Tryz.ntmps134
 go_wp2_with fail
 go_loopw [5, 7] (fun v i wr => ∃ (acc : List Frm) (s' : Bs) (A : Option Addr) (c : Nat) (xs : List Value), v = .slice A acc.length c ∧ i = .int .i64 acc.length ∧ acc.length ≤ n ∧ Hid (wr.ownsRow w.heap.size 74 3 (.slice A acc.length c) acc.length xs) ∧ Hid (ListE (FrmE wr) acc xs) ∧ Hid (Rdy wr P R g L cf s') ∧ Hid (Only R w wr) ∧ Hid (manyP (frmP L) (n - acc.length) s' acc = q)) (fun _ i _ => n - (intOf i).toNat)
 case atStart => exact ⟨[], s, none, 0, [], rfl, rfl, Nat.zero_le _, lhid (World.ownsRow_nil _ _ _ _), lhid rfl, h, lhid (Only.refl _ _), HQ⟩
 case round =>
  obtain ⟨acc, s', A, c, xs, rfl, rfl, hle, HO, HE, HR, HW, HM⟩ := hrel
  by_cases hlt : acc.length < n
  ·have hlt2 : (acc.length : Int) < n := by omega
   go_wp2_with fail
   with_reducible refine (frame_any P R g cf L s' _ HR).mono ?_
   rintro e w1 ho
   have HO1 := lhid (HW.out.trans ho.1)
   have HS := lhid (rdr_stay HR.out.r ho.1)
   cases hp : (frmP L) s' with
   | er x =>
    have hx := ho.er hp
    have HP := lhid hp
    clear ho hp
    obtain rfl := hx
    go_wp2_with fail
    exact ⟨rfl, out_er HO1.out (HM.out.symm.trans (manyP_no _ HP.out hlt))⟩
   | ok a r =>
    have hx := ho.ok hp
    have HP := lhid hp
    clear ho hp
    obtain ⟨v, rfl, hv, hr⟩ := hx
    obtain ⟨x, y, rfl, hx1, hx2⟩ := hv
    have H1 := lhid hr
    have HX1 := lhid hx1; have HX2 := lhid hx2; clear hx1 hx2; obtain ⟨xA, xc, rfl⟩ := slO_shape HX1.out; obtain ⟨yA, yc, rfl⟩ := slO_shape HX2.out
    clear hr
    have HO2 := lhid (own_stay HO.out HS.out (by simp [tC, tM, tF]))
    have HE2 := lhid (HE.out.imp fun a c => frmE_keeps (by simp [tC, tM, tF]) _ _ a c HS.out)
    have HEA : Hid (FrmE w1 a [.int .i64 a.pc, .slice xA a.locals.length xc, .slice yA a.stack.length yc]) := lhid ⟨_, _, rfl, HX1.out, HX2.out⟩
    have hbw := HO1.out.size
    go_wp2_with (at_builtin; refine wpList_append_own _ rfl (.tmp 9) (.tmp 12) 60 rfl w.heap.size 74 i0 (.agg #[.int .i64 0, .slice none 0 0, .slice none 0 0]) 3 56 Tryz.underlying60 hi0 hz0 hz1 hz2 rfl (by decide) (.slice A acc.length c) acc.length xs rfl (HO2.out.alloc _) ⟨w1.heap.size, 0, none⟩ 1 1 [.int .i64 a.pc, .slice xA a.locals.length xc, .slice yA a.stack.length yc] rfl rfl ?c1 ?c2 ?c3 ?c4 ?c5 ?_)
    case c1 => exact new_cells w1 [.int .i64 a.pc, .slice xA a.locals.length xc, .slice yA a.stack.length yc] _
    case c2 => intro u hu; simp at hu; rcases hu with rfl | rfl | rfl <;> simp [Value.oneCell']
    case c3 => unfold maxLen; omega
    case c4 => omega
    case c5 => simp; omega
    intro v' w2 hown hgrow _
    obtain ⟨A', c', rfl⟩ := own_shape hown
    have HO3 := lhid hown
    have hge := own_lt (HO2.out.alloc (.cells #[.int .i64 a.pc, .slice xA a.locals.length xc, .slice yA a.stack.length yc] 74))
    have HS2 := lhid (((Stay.refl [9] w1).alloc (.cells #[.int .i64 a.pc, .slice xA a.locals.length xc, .slice yA a.stack.length yc] 74)).trans (grown_stay hgrow (HO2.out.alloc _) (by simp)))
    have HR2 := lhid ((H1.out.alloc (.cells #[.int .i64 a.pc, .slice xA a.locals.length xc, .slice yA a.stack.length yc] 74)).grown hgrow (fun k hk => by have := hge k hk; have := HLT.out; omega))
    have HW2 := lhid ((HO1.out.alloc (.cells #[.int .i64 a.pc, .slice xA a.locals.length xc, .slice yA a.stack.length yc] 74)).grown hgrow hge)
    clear hown hgrow hge
    go_wp2
    go_roundw
    case rel =>
     refine ⟨acc ++ [a], r, A', c', xs ++ [.int .i64 a.pc, .slice xA a.locals.length xc, .slice yA a.stack.length yc], by simp, by simp, by simp; omega, lhid (by simpa using HO3.out), lhid (ListE.snoc (frmE_keeps (by simp) _ _ a _ HS2.out HEA.out) (HE2.out.imp fun a c => frmE_keeps (by simp) _ _ a c HS2.out)), HR2, HW2, lhid ?_⟩
     exact (manyP_on _ HP.out hlt).symm.trans HM.out
    case measure => simp [intOf]; omega
  ·have he : acc.length = n := by omega
   have hlt2 : ¬ (acc.length : Int) < n := by omega
   have HN := lhid he
   clear he
   go_wp2_with fail
   go_ret
   exact out_ok (a := acc) (r := s') HW.out (HM.out.symm.trans (manyP_end _ HN.out)) ⟨xs, own_base HO.out (Nat.zero_le _), HE.out⟩ HR.out
end Go.Proofs.YtgihfcimngogfaaGreat
namespace Go.Proofs.YtgihfcimngogfaaGreat
open Go.RowKit Go
set_option linter.unusedVariables false
set_option maxHeartbeats 8000000 in
set_option maxRecDepth 100000 in
theorem listG_any (P R g cf : Nat) (L : List Con) (s : Bs) (n : Nat) (w : World) (h : Hid (Rdy w P R g L cf s)) (hn : n ≤ 4000) :
  Calls Tryz.prog 89 #[.int .i64 n, .func (.func 90) #[.pointer (some ⟨P, 0, none⟩)] #[]] w (Out P R g L cf (ListV 57 3 FldE) (manyP (fldP L cf) n s []) w) := by
 obtain ⟨q, hq⟩ : ∃ q, manyP (fldP L cf) n s [] = q := ⟨_, rfl⟩
 have HQ := lhid hq
 rw [hq]
 clear hq
 obtain ⟨i0, hi0, hz0, hz1, hz2⟩ := info_parts infoFld
 have hlts := h.out.lts
 have HLT := lhid hlts
 clear hlts
 go_enter Tryz.func89, Tryz.ntmps89
 go_wp2_with fail
 go_loopw [5, 7] (fun v i wr => ∃ (acc : List Fld) (s' : Bs) (A : Option Addr) (c : Nat) (xs : List Value), v = .slice A acc.length c ∧ i = .int .i64 acc.length ∧ acc.length ≤ n ∧ Hid (wr.ownsRow w.heap.size 57 3 (.slice A acc.length c) acc.length xs) ∧ Hid (ListE (FldE wr) acc xs) ∧ Hid (Rdy wr P R g L cf s') ∧ Hid (Only R w wr) ∧ Hid (manyP (fldP L cf) (n - acc.length) s' acc = q)) (fun _ i _ => n - (intOf i).toNat)
 case atStart => exact ⟨[], s, none, 0, [], rfl, rfl, Nat.zero_le _, lhid (World.ownsRow_nil _ _ _ _), lhid rfl, h, lhid (Only.refl _ _), HQ⟩
 case round =>
  obtain ⟨acc, s', A, c, xs, rfl, rfl, hle, HO, HE, HR, HW, HM⟩ := hrel
  by_cases hlt : acc.length < n
  ·have hlt2 : (acc.length : Int) < n := by omega
   go_wp2_with fail
   with_reducible refine (field_any P R g cf L s' _ HR).mono ?_
   rintro e w1 ho
   have HO1 := lhid (HW.out.trans ho.1)
   have HS := lhid (rdr_stay HR.out.r ho.1)
   cases hp : (fldP L cf) s' with
   | er x =>
    have hx := ho.er hp
    have HP := lhid hp
    clear ho hp
    obtain rfl := hx
    go_wp2_with fail
    exact ⟨rfl, out_er HO1.out (HM.out.symm.trans (manyP_no _ HP.out hlt))⟩
   | ok a r =>
    have hx := ho.ok hp
    have HP := lhid hp
    clear ho hp
    obtain ⟨v, rfl, hv, hr⟩ := hx
    obtain rfl := hv
    have H1 := lhid hr
    skip
    clear hr
    have HO2 := lhid (own_stay HO.out HS.out (by simp [tC, tM, tF]))
    have HE2 := lhid (HE.out.imp fun a c => keepsFld tC _ _ a c HS.out)
    have HEA : Hid (FldE w1 a [.int .i64 a.flags, .string (tx a.name), .string (tx a.desc)]) := lhid rfl
    have hbw := HO1.out.size
    go_wp2_with (at_builtin; refine wpList_append_own _ rfl (.tmp 9) (.tmp 12) 24 rfl w.heap.size 57 i0 (.agg #[.int .i64 0, .string ⟨#[]⟩, .string ⟨#[]⟩]) 3 40 Tryz.underlying24 hi0 hz0 hz1 hz2 rfl (by decide) (.slice A acc.length c) acc.length xs rfl (HO2.out.alloc _) ⟨w1.heap.size, 0, none⟩ 1 1 [.int .i64 a.flags, .string (tx a.name), .string (tx a.desc)] rfl rfl ?c1 ?c2 ?c3 ?c4 ?c5 ?_)
    case c1 => exact new_cells w1 [.int .i64 a.flags, .string (tx a.name), .string (tx a.desc)] _
    case c2 => intro u hu; simp at hu; rcases hu with rfl | rfl | rfl <;> simp [Value.oneCell']
    case c3 => unfold maxLen; omega
    case c4 => omega
    case c5 => simp; omega
    intro v' w2 hown hgrow _
    obtain ⟨A', c', rfl⟩ := own_shape hown
    have HO3 := lhid hown
    have hge := own_lt (HO2.out.alloc (.cells #[.int .i64 a.flags, .string (tx a.name), .string (tx a.desc)] 57))
    have HS2 := lhid (((Stay.refl ([] : List TypeId) w1).alloc (.cells #[.int .i64 a.flags, .string (tx a.name), .string (tx a.desc)] 57)).trans (grown_stay hgrow (HO2.out.alloc _) (by simp)))
    have HR2 := lhid ((H1.out.alloc (.cells #[.int .i64 a.flags, .string (tx a.name), .string (tx a.desc)] 57)).grown hgrow (fun k hk => by have := hge k hk; have := HLT.out; omega))
    have HW2 := lhid ((HO1.out.alloc (.cells #[.int .i64 a.flags, .string (tx a.name), .string (tx a.desc)] 57)).grown hgrow hge)
    clear hown hgrow hge
    go_wp2
    go_roundw
    case rel =>
     refine ⟨acc ++ [a], r, A', c', xs ++ [.int .i64 a.flags, .string (tx a.name), .string (tx a.desc)], by simp, by simp, by simp; omega, lhid (by simpa using HO3.out), lhid (ListE.snoc (keepsFld [] _ _ a _ HS2.out HEA.out) (HE2.out.imp fun a c => keepsFld [] _ _ a c HS2.out)), HR2, HW2, lhid ?_⟩
     exact (manyP_on _ HP.out hlt).symm.trans HM.out
    case measure => simp [intOf]; omega
  ·have he : acc.length = n := by omega
   have hlt2 : ¬ (acc.length : Int) < n := by omega
   have HN := lhid he
   clear he
   go_wp2_with fail
   go_ret
   exact out_ok (a := acc) (r := s') HW.out (HM.out.symm.trans (manyP_end _ HN.out)) ⟨xs, own_base HO.out (Nat.zero_le _), HE.out⟩ HR.out
end Go.Proofs.YtgihfcimngogfaaGreat
namespace Go.Proofs.YtgihfcimngogfaaGreat
open Go.RowKit Go
set_option linter.unusedVariables false
set_option maxHeartbeats 8000000 in
set_option maxRecDepth 100000 in
theorem listC_any (P R g cf : Nat) (L : List Con) (s : Bs) (n : Nat) (w : World) (h : Hid (Rdy w P R g L cf s)) (hn : n ≤ 4000) :
  Calls Tryz.prog 87 #[.int .i64 n, .func (.func 86) #[.pointer (some ⟨P, 0, none⟩)] #[]] w (Out P R g L cf (ListV 9 1 StrE) (manyP (clsP L) n s []) w) := by
 obtain ⟨q, hq⟩ : ∃ q, manyP (clsP L) n s [] = q := ⟨_, rfl⟩
 have HQ := lhid hq
 rw [hq]
 clear hq
 obtain ⟨i0, hi0, hz0, hz1, hz2⟩ := info_parts infoStr
 have hlts := h.out.lts
 have HLT := lhid hlts
 clear hlts
 go_enter Tryz.func87, Tryz.ntmps87
 go_wp2_with fail
 go_loopw [5, 7] (fun v i wr => ∃ (acc : List Bs) (s' : Bs) (A : Option Addr) (c : Nat) (xs : List Value), v = .slice A acc.length c ∧ i = .int .i64 acc.length ∧ acc.length ≤ n ∧ Hid (wr.ownsRow w.heap.size 9 1 (.slice A acc.length c) acc.length xs) ∧ Hid (ListE (StrE wr) acc xs) ∧ Hid (Rdy wr P R g L cf s') ∧ Hid (Only R w wr) ∧ Hid (manyP (clsP L) (n - acc.length) s' acc = q)) (fun _ i _ => n - (intOf i).toNat)
 case atStart => exact ⟨[], s, none, 0, [], rfl, rfl, Nat.zero_le _, lhid (World.ownsRow_nil _ _ _ _), lhid rfl, h, lhid (Only.refl _ _), HQ⟩
 case round =>
  obtain ⟨acc, s', A, c, xs, rfl, rfl, hle, HO, HE, HR, HW, HM⟩ := hrel
  by_cases hlt : acc.length < n
  ·have hlt2 : (acc.length : Int) < n := by omega
   go_wp2_with fail
   with_reducible refine (className_any P R g cf L s' _ HR).mono ?_
   rintro e w1 ho
   have HO1 := lhid (HW.out.trans ho.1)
   have HS := lhid (rdr_stay HR.out.r ho.1)
   cases hp : (clsP L) s' with
   | er x =>
    have hx := ho.er hp
    have HP := lhid hp
    clear ho hp
    obtain rfl := hx
    go_wp2_with fail
    exact ⟨rfl, out_er HO1.out (HM.out.symm.trans (manyP_no _ HP.out hlt))⟩
   | ok a r =>
    have hx := ho.ok hp
    have HP := lhid hp
    clear ho hp
    obtain ⟨v, rfl, hv, hr⟩ := hx
    obtain rfl := hv
    have H1 := lhid hr
    skip
    clear hr
    have HO2 := lhid (own_stay HO.out HS.out (by simp [tC, tM, tF]))
    have HE2 := lhid (HE.out.imp fun a c => keepsStr tC _ _ a c HS.out)
    have HEA : Hid (StrE w1 a [.string (tx a)]) := lhid rfl
    have hbw := HO1.out.size
    go_wp2_with (at_builtin; refine wpList_append_own _ rfl (.tmp 9) (.tmp 12) 22 rfl w.heap.size 9 i0 (.string ⟨#[]⟩) 1 16 Tryz.underlying22 hi0 hz0 hz1 hz2 rfl (by decide) (.slice A acc.length c) acc.length xs rfl (HO2.out.alloc _) ⟨w1.heap.size, 0, none⟩ 1 1 [.string (tx a)] rfl rfl ?c1 ?c2 ?c3 ?c4 ?c5 ?_)
    case c1 => exact new_cells w1 [.string (tx a)] _
    case c2 => intro u hu; simp at hu; subst hu; rfl
    case c3 => unfold maxLen; omega
    case c4 => omega
    case c5 => simp; omega
    intro v' w2 hown hgrow _
    obtain ⟨A', c', rfl⟩ := own_shape hown
    have HO3 := lhid hown
    have hge := own_lt (HO2.out.alloc (.cells #[.string (tx a)] 9))
    have HS2 := lhid (((Stay.refl ([] : List TypeId) w1).alloc (.cells #[.string (tx a)] 9)).trans (grown_stay hgrow (HO2.out.alloc _) (by simp)))
    have HR2 := lhid ((H1.out.alloc (.cells #[.string (tx a)] 9)).grown hgrow (fun k hk => by have := hge k hk; have := HLT.out; omega))
    have HW2 := lhid ((HO1.out.alloc (.cells #[.string (tx a)] 9)).grown hgrow hge)
    clear hown hgrow hge
    go_wp2
    go_roundw
    case rel =>
     refine ⟨acc ++ [a], r, A', c', xs ++ [.string (tx a)], by simp, by simp, by simp; omega, lhid (by simpa using HO3.out), lhid (ListE.snoc (keepsStr [] _ _ a _ HS2.out HEA.out) (HE2.out.imp fun a c => keepsStr [] _ _ a c HS2.out)), HR2, HW2, lhid ?_⟩
     exact (manyP_on _ HP.out hlt).symm.trans HM.out
    case measure => simp [intOf]; omega
  ·have he : acc.length = n := by omega
   have hlt2 : ¬ (acc.length : Int) < n := by omega
   have HN := lhid he
   clear he
   go_wp2_with fail
   go_ret
   exact out_ok (a := acc) (r := s') HW.out (HM.out.symm.trans (manyP_end _ HN.out)) ⟨xs, own_base HO.out (Nat.zero_le _), HE.out⟩ HR.out
end Go.Proofs.YtgihfcimngogfaaGreat
namespace Go.Proofs.YtgihfcimngogfaaGreat
open Go.RowKit Go
set_option linter.unusedVariables false
theorem listE_at {α : Type} {E : α → List Value → Prop} {k : Nat} (hE : ∀ a c, E a c → c.length = k) : ∀ {l : List α} {xs : List Value} (i : Nat) (a : α), ListE E l xs → l[i]? = some a → ∃ c, E a c ∧ ∀ (j : Nat) u, c[j]? = some u → xs[i * k + j]? = some u
 | [], _, _, _, _, h => by simp at h
 | b :: l, xs, 0, a, h, hi => by
  obtain ⟨c, r, rfl, h1, _⟩ := h
  simp at hi
  subst hi
  refine ⟨c, h1, fun j u hj => ?_⟩
  have := (List.getElem?_eq_some_iff.1 hj).1
  rw [Nat.zero_mul, Nat.zero_add, List.getElem?_append_left this]
  exact hj
 | b :: l, xs, i + 1, a, h, hi => by
  obtain ⟨c, r, rfl, h1, h2⟩ := h
  obtain ⟨c2, h3, h4⟩ := listE_at hE i a h2 (by simpa using hi)
  refine ⟨c2, h3, fun j u hj => ?_⟩
  have hl := hE _ _ h1
  rw [List.getElem?_append_right (by rw [hl, Nat.succ_mul]; omega), hl, show (i + 1) * k + j - k = i * k + j by rw [Nat.succ_mul]; omega]
  exact h4 j u hj
theorem sl_cell {α : Type} {T k : Nat} {E : World → α → List Value → Prop} {w : World} {v : Value} {l : List α} (hE : ∀ a c, E w a c → c.length = k) (h : SlO T k E w v l) {i : Nat} {a : α} (hi : l[i]? = some a) :
  ∃ g cap, v = .slice (some ⟨g, 0, none⟩) l.length cap ∧ g < w.heap.size ∧ l.length ≤ cap ∧ ∃ c, E w a c ∧ ∀ (j : Nat) u, c[j]? = some u → w.cell? ⟨g, i * k + j, none⟩ = some u := by
 obtain ⟨xs, h1, h2⟩ := h
 have hl := (List.getElem?_eq_some_iff.1 hi).1
 obtain ⟨c, h3, h4⟩ := listE_at hE i a h2 hi
 rcases h1.2 with ⟨_, h0⟩ | ⟨g, cap, cur, hv, _, hg, hcap, _⟩
 ·omega
 ·refine ⟨g, cap, hv, heap_lt hg, hcap, c, h3, fun j u hj => ?_⟩
  have hb : v.ownBlock = some g := by rw [hv]; rfl
  have := h1.cells hb (i * k + j) u (h4 j u hj)
  have hadd : (⟨g, 0, none⟩ : Addr).add (i * k + j) = ⟨g, i * k + j, none⟩ := by unfold Addr.add; split <;> simp_all
  rwa [hadd] at this
def KeyE (_ : World) (k : Bs × Bs) (c : List Value) : Prop := c = [.string (tx k.1), .string (tx k.2)]
abbrev KeysO := SlO 154 2 KeyE
theorem infoKey : (Tryz.prog.info? 154).map (fun i => (i.zero, i.size, i.bytes)) = some (some (.agg #[.string ⟨#[]⟩, .string ⟨#[]⟩]), 2, 32) := by kernel_rfl
theorem take_snoc {α : Type} (l : List α) (k : Nat) (a : α) (h : l[k]? = some a) : l.take (k + 1) = l.take k ++ [a] := by
 have hk := (List.getElem?_eq_some_iff.1 h).1
 rw [List.take_succ_eq_append_getElem hk]
 rw [List.getElem?_eq_getElem hk] at h
 simp at h
 rw [h]
set_option maxHeartbeats 8000000 in
set_option maxRecDepth 100000 in
theorem fieldKeys_any (l : List Fld) (v : Value) (w : World) (h : Hid (FldsO w v l)) (hn : l.length ≤ 60) :
  Calls Tryz.prog 61 #[v] w fun e w' => ∃ v', e = .returned v' ∧ KeysO w' v' (l.map (fun f : Fld => (f.name, ([] : Bs)))) ∧ Below w.heap.size w w' := by
 obtain ⟨A0, c0, rfl⟩ := slO_shape h.out
 obtain ⟨i0, hi0, hz0, hz1, hz2⟩ := info_parts infoKey
 go_enter Tryz.func61, Tryz.ntmps61
 go_wp2_with fail
 go_loopw [3, 8] (fun v i wr => ∃ (k : Nat) (A : Option Addr) (c : Nat) (xs : List Value), v = .slice A k c ∧ i = .int .i64 k ∧ k ≤ l.length ∧ Hid (wr.ownsRow w.heap.size 154 2 (.slice A k c) k xs) ∧ Hid (ListE (KeyE wr) ((l.map (fun f : Fld => (f.name, ([] : Bs)))).take k) xs) ∧ Hid (Below w.heap.size w wr)) (fun _ i _ => l.length - (intOf i).toNat)
 case atStart => exact ⟨0, none, 0, [], rfl, rfl, Nat.zero_le _, lhid (World.ownsRow_nil _ _ _ _), lhid rfl, lhid (Below.refl _ _)⟩
 case round =>
  obtain ⟨k, A, c, xs, rfl, rfl, hle, HO, HE, HW⟩ := hrel
  by_cases hlt : k < l.length
  ·obtain ⟨a, ha⟩ : ∃ a, l[k]? = some a := ⟨_, List.getElem?_eq_getElem hlt⟩
   obtain ⟨g, cap, hv, hg, hcap, ca, hca, hcells⟩ := sl_cell (by rintro a c rfl; rfl) h.out ha
   obtain ⟨rfl, rfl⟩ : A0 = some ⟨g, 0, none⟩ ∧ c0 = cap := by injection hv with h1 _ h3; exact ⟨h1, h3⟩
   skip
   have hcell : ∀ (j : Nat) u, ca[j]? = some u → wr.cell? ⟨g, k * 3 + j, none⟩ = some u := fun j u hj => (HW.out.cell (p := ⟨g, k * 3 + j, none⟩) hg).trans (hcells j u hj)
   subst hca
   have p0 : wr.cell? ⟨g, k * 3, none⟩ = some (.int .i64 a.flags) := hcell 0 _ rfl
   have p1 : wr.cell? ⟨g, k * 3 + 1, none⟩ = some (.string (tx a.name)) := hcell 1 _ rfl
   have p2 : wr.cell? ⟨g, k * 3 + 2, none⟩ = some (.string (tx a.desc)) := hcell 2 _ rfl
   have HA := lhid ha
   have hbw := HW.out.size
   have hlt2 : (k : Int) < l.length := by omega
   have hlt3 : k < c0 := by omega
   clear hcells hcell ha hv
   have HO2 := lhid ((HO.out.alloc (.cells #[.int .i64 a.flags, .string (tx a.name), .string (tx a.desc)] 57)))
   have hg2 : g < wr.heap.size := by omega
   go_wp2_with (at_builtin; refine wpList_append_own _ rfl (.tmp 12) (.tmp 16) 113 rfl w.heap.size 154 i0 (.agg #[.string ⟨#[]⟩, .string ⟨#[]⟩]) 2 32 Tryz.underlying113 hi0 hz0 hz1 hz2 rfl (by decide) (.slice A k c) k xs rfl (HO2.out.alloc _) ⟨wr.heap.size + 1, 0, none⟩ 1 1 [.string (tx a.name), .string ⟨#[]⟩] rfl rfl ?c1 ?c2 ?c3 ?c4 ?c5 ?_)
   case c1 =>
    have := new_cells (wr.alloc (.cells #[.int .i64 a.flags, .string (tx a.name), .string (tx a.desc)] 57)) [.string (tx a.name), .string ⟨#[]⟩] 154
    simpa using this
   case c2 => intro u hu; simp at hu; rcases hu with rfl | rfl <;> simp [Value.oneCell']
   case c3 => unfold maxLen; omega
   case c4 => omega
   case c5 => simp; omega
   intro v' w2 hown hgrow _
   obtain ⟨A', c', rfl⟩ := own_shape hown
   have HO3 := lhid hown
   have hge := own_lt ((HO2.out.alloc (.cells #[.string (tx a.name), .string ⟨#[]⟩] 154)))
   have HW2 := lhid (((HW.out.alloc hbw (.cells #[.int .i64 a.flags, .string (tx a.name), .string (tx a.desc)] 57)).alloc (by simp; omega) (.cells #[.string (tx a.name), .string ⟨#[]⟩] 154)).grown hgrow (by simp; omega) hge)
   clear hown hgrow hge
   go_wp2
   go_roundw
   case rel =>
    refine ⟨k + 1, A', c', xs ++ [.string (tx a.name), .string ⟨#[]⟩], rfl, by simp, by omega, HO3, lhid ?_, HW2⟩
    rw [take_snoc _ k ((fun f : Fld => (f.name, ([] : Bs))) a) (by rw [List.getElem?_map, HA.out]; rfl)]
    exact ListE.snoc (E := KeyE w2) rfl HE.out
   case measure => simp [intOf]; omega
  ·have he : k = l.length := by omega
   have hlt2 : ¬ (k : Int) < l.length := by omega
   have HN := lhid he
   clear he
   go_wp2_with fail
   go_ret
   refine ⟨_, rfl, ⟨xs, ?_, ?_⟩, HW.out⟩
   ·have := own_base HO.out (Nat.zero_le _)
    rw [List.length_map, ← HN.out]
    exact this
   ·have := HE.out
    rw [HN.out, List.take_of_length_le (by simp)] at this
    exact this
set_option maxHeartbeats 8000000 in
set_option maxRecDepth 100000 in
theorem methodKeys_any (l : List Met) (v : Value) (w : World) (h : Hid (MetsO w v l)) (hn : l.length ≤ 60) :
  Calls Tryz.prog 62 #[v] w fun e w' => ∃ v', e = .returned v' ∧ KeysO w' v' (l.map (fun m : Met => (m.name, m.desc))) ∧ Below w.heap.size w w' := by
 obtain ⟨A0, c0, rfl⟩ := slO_shape h.out
 obtain ⟨i0, hi0, hz0, hz1, hz2⟩ := info_parts infoKey
 go_enter Tryz.func62, Tryz.ntmps62
 go_wp2_with fail
 go_loopw [3, 8] (fun v i wr => ∃ (k : Nat) (A : Option Addr) (c : Nat) (xs : List Value), v = .slice A k c ∧ i = .int .i64 k ∧ k ≤ l.length ∧ Hid (wr.ownsRow w.heap.size 154 2 (.slice A k c) k xs) ∧ Hid (ListE (KeyE wr) ((l.map (fun m : Met => (m.name, m.desc))).take k) xs) ∧ Hid (Below w.heap.size w wr)) (fun _ i _ => l.length - (intOf i).toNat)
 case atStart => exact ⟨0, none, 0, [], rfl, rfl, Nat.zero_le _, lhid (World.ownsRow_nil _ _ _ _), lhid rfl, lhid (Below.refl _ _)⟩
 case round =>
  obtain ⟨k, A, c, xs, rfl, rfl, hle, HO, HE, HW⟩ := hrel
  by_cases hlt : k < l.length
  ·obtain ⟨a, ha⟩ : ∃ a, l[k]? = some a := ⟨_, List.getElem?_eq_getElem hlt⟩
   obtain ⟨g, cap, hv, hg, hcap, ca, hca, hcells⟩ := sl_cell (by rintro a c ⟨_, _, _, rfl, _⟩; rfl) h.out ha
   obtain ⟨rfl, rfl⟩ : A0 = some ⟨g, 0, none⟩ ∧ c0 = cap := by injection hv with h1 _ h3; exact ⟨h1, h3⟩
   obtain ⟨x, y, z, hca, hx1, hx2, hx3⟩ := hca
   obtain ⟨xA, xc, rfl⟩ := byts_shape hx1
   obtain ⟨yA, yc, rfl⟩ := slO_shape hx2
   obtain ⟨zA, zc, rfl⟩ := slO_shape hx3
   clear hx1 hx2 hx3
   have hcell : ∀ (j : Nat) u, ca[j]? = some u → wr.cell? ⟨g, k * 8 + j, none⟩ = some u := fun j u hj => (HW.out.cell (p := ⟨g, k * 8 + j, none⟩) hg).trans (hcells j u hj)
   subst hca
   have p0 : wr.cell? ⟨g, k * 8, none⟩ = some (.int .i64 a.flags) := hcell 0 _ rfl
   have p1 : wr.cell? ⟨g, k * 8 + 1, none⟩ = some (.string (tx a.name)) := hcell 1 _ rfl
   have p2 : wr.cell? ⟨g, k * 8 + 2, none⟩ = some (.string (tx a.desc)) := hcell 2 _ rfl
   have p3 : wr.cell? ⟨g, k * 8 + 3, none⟩ = some (.int .i64 a.stack) := hcell 3 _ rfl
   have p4 : wr.cell? ⟨g, k * 8 + 4, none⟩ = some (.int .i64 a.locals) := hcell 4 _ rfl
   have p5 : wr.cell? ⟨g, k * 8 + 5, none⟩ = some (.slice xA a.code.length xc) := hcell 5 _ rfl
   have p6 : wr.cell? ⟨g, k * 8 + 6, none⟩ = some (.slice yA a.rows.length yc) := hcell 6 _ rfl
   have p7 : wr.cell? ⟨g, k * 8 + 7, none⟩ = some (.slice zA a.frames.length zc) := hcell 7 _ rfl
   have HA := lhid ha
   have hbw := HW.out.size
   have hlt2 : (k : Int) < l.length := by omega
   have hlt3 : k < c0 := by omega
   clear hcells hcell ha hv
   have HO2 := lhid ((HO.out.alloc (.cells #[.int .i64 a.flags, .string (tx a.name), .string (tx a.desc), .int .i64 a.stack, .int .i64 a.locals, .slice xA a.code.length xc, .slice yA a.rows.length yc, .slice zA a.frames.length zc] 62)))
   have hg2 : g < wr.heap.size := by omega
   go_wp2_with (at_builtin; refine wpList_append_own _ rfl (.tmp 12) (.tmp 18) 113 rfl w.heap.size 154 i0 (.agg #[.string ⟨#[]⟩, .string ⟨#[]⟩]) 2 32 Tryz.underlying113 hi0 hz0 hz1 hz2 rfl (by decide) (.slice A k c) k xs rfl (HO2.out.alloc _) ⟨wr.heap.size + 1, 0, none⟩ 1 1 [.string (tx a.name), .string (tx a.desc)] rfl rfl ?c1 ?c2 ?c3 ?c4 ?c5 ?_)
   case c1 =>
    have := new_cells (wr.alloc (.cells #[.int .i64 a.flags, .string (tx a.name), .string (tx a.desc), .int .i64 a.stack, .int .i64 a.locals, .slice xA a.code.length xc, .slice yA a.rows.length yc, .slice zA a.frames.length zc] 62)) [.string (tx a.name), .string (tx a.desc)] 154
    simpa using this
   case c2 => intro u hu; simp at hu; rcases hu with rfl | rfl <;> simp [Value.oneCell']
   case c3 => unfold maxLen; omega
   case c4 => omega
   case c5 => simp; omega
   intro v' w2 hown hgrow _
   obtain ⟨A', c', rfl⟩ := own_shape hown
   have HO3 := lhid hown
   have hge := own_lt ((HO2.out.alloc (.cells #[.string (tx a.name), .string (tx a.desc)] 154)))
   have HW2 := lhid (((HW.out.alloc hbw (.cells #[.int .i64 a.flags, .string (tx a.name), .string (tx a.desc), .int .i64 a.stack, .int .i64 a.locals, .slice xA a.code.length xc, .slice yA a.rows.length yc, .slice zA a.frames.length zc] 62)).alloc (by simp; omega) (.cells #[.string (tx a.name), .string (tx a.desc)] 154)).grown hgrow (by simp; omega) hge)
   clear hown hgrow hge
   go_wp2
   go_roundw
   case rel =>
    refine ⟨k + 1, A', c', xs ++ [.string (tx a.name), .string (tx a.desc)], rfl, by simp, by omega, HO3, lhid ?_, HW2⟩
    rw [take_snoc _ k ((fun m : Met => (m.name, m.desc)) a) (by rw [List.getElem?_map, HA.out]; rfl)]
    exact ListE.snoc (E := KeyE w2) rfl HE.out
   case measure => simp [intOf]; omega
  ·have he : k = l.length := by omega
   have hlt2 : ¬ (k : Int) < l.length := by omega
   have HN := lhid he
   clear he
   go_wp2_with fail
   go_ret
   refine ⟨_, rfl, ⟨xs, ?_, ?_⟩, HW.out⟩
   ·have := own_base HO.out (Nat.zero_le _)
    rw [List.length_map, ← HN.out]
    exact this
   ·have := HE.out
    rw [HN.out, List.take_of_length_le (by simp)] at this
    exact this
end Go.Proofs.YtgihfcimngogfaaGreat
