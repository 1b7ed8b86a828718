/- Contract of file.list where it reads by method. Written by gen_file3.py. -/
import Derived.Test.YtgihfcimngogfaaGreatJFileMethod
namespace Go.Proofs.YtgihfcimngogfaaGreat
open Go.RowKit Go
set_option linter.unusedVariables false
set_option maxHeartbeats 8000000 in
set_option maxRecDepth 100000 in
theorem listM_any (P R g cf : Nat) (L : List Con) (s : Bs) (n : Nat) (w : World) (h : Hid (Rdy w P R g L cf s)) (hn : n ≤ 4000) :
  Calls Tryz.prog 91 #[.int .i64 n, .func (.func 92) #[.pointer (some ⟨P, 0, none⟩)] #[]] w (Out P R g L cf (ListV 62 8 MetE) (manyP (metP L cf) n s []) w) := by
 obtain ⟨q, hq⟩ : ∃ q, manyP (metP L cf) n s [] = q := ⟨_, rfl⟩
 have HQ := lhid hq
 rw [hq]
 clear hq
 obtain ⟨i0, hi0, hz0, hz1, hz2⟩ := info_parts infoMet
 have hlts := h.out.lts
 have HLT := lhid hlts
 clear hlts
 go_enter Tryz.func91, Tryz.ntmps91
 go_wp2_with fail
 go_loopw [5, 7] (fun v i wr => ∃ (acc : List Met) (s' : Bs) (A : Option Addr) (c : Nat) (xs : List Value), v = .slice A acc.length c ∧ i = .int .i64 acc.length ∧ acc.length ≤ n ∧ Hid (wr.ownsRow w.heap.size 62 8 (.slice A acc.length c) acc.length xs) ∧ Hid (ListE (MetE wr) acc xs) ∧ Hid (Rdy wr P R g L cf s') ∧ Hid (Only R w wr) ∧ Hid (manyP (metP L cf) (n - acc.length) s' acc = q)) (fun _ i _ => n - (intOf i).toNat)
 case atStart => exact ⟨[], s, none, 0, [], rfl, rfl, Nat.zero_le _, lhid (World.ownsRow_nil _ _ _ _), lhid rfl, h, lhid (Only.refl _ _), HQ⟩
 case round =>
  obtain ⟨acc, s', A, c, xs, rfl, rfl, hle, HO, HE, HR, HW, HM⟩ := hrel
  by_cases hlt : acc.length < n
  ·have hlt2 : (acc.length : Int) < n := by omega
   go_wp2_with fail
   with_reducible refine (pmethod_any P R g cf L s' _ HR).mono ?_
   rintro e w1 ho
   have HO1 := lhid (HW.out.trans ho.1)
   have HS := lhid (rdr_stay HR.out.r ho.1)
   cases hp : (metP L cf) s' with
   | er x =>
    have hx := ho.er hp
    have HP := lhid hp
    clear ho hp
    obtain rfl := hx
    go_wp2_with fail
    exact ⟨rfl, out_er HO1.out (HM.out.symm.trans (manyP_no _ HP.out hlt))⟩
   | ok a r =>
    have hx := ho.ok hp
    have HP := lhid hp
    clear ho hp
    obtain ⟨v, rfl, hv, hr⟩ := hx
    obtain ⟨x, y, z, rfl, hx1, hx2, hx3⟩ := hv
    have H1 := lhid hr
    have HX1 := lhid hx1; have HX2 := lhid hx2; have HX3 := lhid hx3; clear hx1 hx2 hx3; obtain ⟨xA, xc, rfl⟩ := byts_shape HX1.out; obtain ⟨yA, yc, rfl⟩ := slO_shape HX2.out; obtain ⟨zA, zc, rfl⟩ := slO_shape HX3.out
    clear hr
    have HO2 := lhid (own_stay HO.out HS.out (by simp [tC, tM, tF]))
    have HE2 := lhid (HE.out.imp fun a c => metE_keeps (fun t ht => List.mem_append_right _ ht) _ _ a c HS.out)
    have HEA : Hid (MetE w1 a [.int .i64 a.flags, .string (tx a.name), .string (tx a.desc), .int .i64 a.stack, .int .i64 a.locals, .slice xA a.code.length xc, .slice yA a.rows.length yc, .slice zA a.frames.length zc]) := lhid ⟨_, _, _, rfl, HX1.out, HX2.out, HX3.out⟩
    have hbw := HO1.out.size
    go_wp2_with (at_builtin; refine wpList_append_own _ rfl (.tmp 9) (.tmp 12) 25 rfl w.heap.size 62 i0 (.agg #[.int .i64 0, .string ⟨#[]⟩, .string ⟨#[]⟩, .int .i64 0, .int .i64 0, .slice none 0 0, .slice none 0 0, .slice none 0 0]) 8 128 Tryz.underlying25 hi0 hz0 hz1 hz2 rfl (by decide) (.slice A acc.length c) acc.length xs rfl (HO2.out.alloc _) ⟨w1.heap.size, 0, none⟩ 1 1 [.int .i64 a.flags, .string (tx a.name), .string (tx a.desc), .int .i64 a.stack, .int .i64 a.locals, .slice xA a.code.length xc, .slice yA a.rows.length yc, .slice zA a.frames.length zc] rfl rfl ?c1 ?c2 ?c3 ?c4 ?c5 ?_)
    case c1 => exact new_cells w1 [.int .i64 a.flags, .string (tx a.name), .string (tx a.desc), .int .i64 a.stack, .int .i64 a.locals, .slice xA a.code.length xc, .slice yA a.rows.length yc, .slice zA a.frames.length zc] _
    case c2 => intro u hu; simp at hu; rcases hu with rfl | rfl | rfl | rfl | rfl | rfl | rfl | rfl <;> simp [Value.oneCell']
    case c3 => unfold maxLen; omega
    case c4 => omega
    case c5 => simp; omega
    intro v' w2 hown hgrow _
    obtain ⟨A', c', rfl⟩ := own_shape hown
    have HO3 := lhid hown
    have hge := own_lt (HO2.out.alloc (.cells #[.int .i64 a.flags, .string (tx a.name), .string (tx a.desc), .int .i64 a.stack, .int .i64 a.locals, .slice xA a.code.length xc, .slice yA a.rows.length yc, .slice zA a.frames.length zc] 62))
    have HS2 := lhid (((Stay.refl tM w1).alloc (.cells #[.int .i64 a.flags, .string (tx a.name), .string (tx a.desc), .int .i64 a.stack, .int .i64 a.locals, .slice xA a.code.length xc, .slice yA a.rows.length yc, .slice zA a.frames.length zc] 62)).trans (grown_stay hgrow (HO2.out.alloc _) (by simp [tM, tF])))
    have HR2 := lhid ((H1.out.alloc (.cells #[.int .i64 a.flags, .string (tx a.name), .string (tx a.desc), .int .i64 a.stack, .int .i64 a.locals, .slice xA a.code.length xc, .slice yA a.rows.length yc, .slice zA a.frames.length zc] 62)).grown hgrow (fun k hk => by have := hge k hk; have := HLT.out; omega))
    have HW2 := lhid ((HO1.out.alloc (.cells #[.int .i64 a.flags, .string (tx a.name), .string (tx a.desc), .int .i64 a.stack, .int .i64 a.locals, .slice xA a.code.length xc, .slice yA a.rows.length yc, .slice zA a.frames.length zc] 62)).grown hgrow hge)
    clear hown hgrow hge
    go_wp2
    go_roundw
    case rel =>
     refine ⟨acc ++ [a], r, A', c', xs ++ [.int .i64 a.flags, .string (tx a.name), .string (tx a.desc), .int .i64 a.stack, .int .i64 a.locals, .slice xA a.code.length xc, .slice yA a.rows.length yc, .slice zA a.frames.length zc], by simp, by simp, by simp; omega, lhid (by simpa using HO3.out), lhid (ListE.snoc (metE_keeps (fun _ h => h) _ _ a _ HS2.out HEA.out) (HE2.out.imp fun a c => metE_keeps (fun _ h => h) _ _ a c HS2.out)), HR2, HW2, lhid ?_⟩
     exact (manyP_on _ HP.out hlt).symm.trans HM.out
    case measure => simp [intOf]; omega
  ·have he : acc.length = n := by omega
   have hlt2 : ¬ (acc.length : Int) < n := by omega
   have HN := lhid he
   clear he
   go_wp2_with fail
   go_ret
   exact out_ok (a := acc) (r := s') HW.out (HM.out.symm.trans (manyP_end _ HN.out)) ⟨xs, own_base HO.out (Nat.zero_le _), HE.out⟩ HR.out
end Go.Proofs.YtgihfcimngogfaaGreat
