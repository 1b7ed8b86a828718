/- Texts of this claim, joined: DsMethod, DsKind. -/
import Derived.Test.YtpdnonlelocfbaaGreatDoorM19
import Derived.OwnWalk
import Derived.Below
import Derived.Laws.OwnMore
import Derived.Deep.Draws
/- Contracts of desc.cutParams and desc.Method. -/
namespace Go.Proofs.YtpdnonlelocfbaaGreatDoor.Ds
open Go.RowKit Go
set_option linter.unusedVariables false

abbrev mk (l : Bs) : ByteArray := ⟨l.toArray⟩
def strV (l : Bs) : Value := .string (mk l)
theorem mk_extract (s : ByteArray) (a b : Nat) : s.extract a b = mk ((s.data.toList.drop a).take (b - a)) := Lib.extract_eq s a b
theorem mk_tail (s : ByteArray) (a : Nat) : s.extract a s.size = mk (s.data.toList.drop a) := by
  rw [← extract_tailK s a]
theorem mk_front (s : ByteArray) (a : Nat) : s.extract 0 a = mk (s.data.toList.take a) := by
  rw [← extract_head s a]
theorem mk_list (l : Bs) : (mk l).data.toList = l := by simp
theorem mk_size (l : Bs) : (mk l).size = l.length := by rw [← size_len, mk_list]

theorem own_form {w : World} {base e n : Nat} {v : Value} {xs : List Value} (h : w.ownsRow base e 1 v n xs) : ∃ A c, v = .slice A n c := by
  rcases h.2 with ⟨rfl, rfl⟩ | ⟨g, cap, cur, rfl, _⟩
  · exact ⟨_, _, rfl⟩
  · exact ⟨_, _, rfl⟩
theorem below_drewN {B : Nat} {a w : World} (h : Below B a w) (n : Nat) : Below B a (w.drewN n) := ⟨h.os, h.tape, h.output, h.size, h.block⟩
theorem own_drewN {w : World} {base e size n : Nat} {v : Value} {xs : List Value} (h : w.ownsRow base e size v n xs) (k : Nat) : (w.drewN k).ownsRow base e size v n xs := h
theorem own_block_ge {w : World} {base e size n : Nat} {v : Value} {xs : List Value} (h : w.ownsRow base e size v n xs) : ∀ k, v.ownBlock = some k → base ≤ k := fun k hk => (h.lt k hk).1
theorem one_cell (w : World) (x : Value) (t : Nat) : ∀ (j : Nat) u, [x][j]? = some u → (w.alloc (.cells #[x] t)).cell? ((⟨w.heap.size, 0, none⟩ : Addr).add j) = some u := by
  intro j u hu
  cases j with
  | zero =>
    simp at hu
    subst hu
    rw [show (⟨w.heap.size, 0, none⟩ : Addr).add 0 = ⟨w.heap.size, 0, none⟩ from rfl, World.cell?_alloc_at _ _ _ _ rfl]
    rfl
  | succ j => simp at hu
theorem cutPrefix_no (s : ByteArray) (c : UInt8) (w : World) (h : Hid ((s.data.toList.head? == some c) = false)) :
    Calls Tryz.prog 109 #[.string s, .string ⟨#[c]⟩] w fun e w' => e = .returned (.tuple #[.string s, .bool false]) ∧ w = w' := by
  refine (Tryz.strings_CutPrefix s ⟨#[c]⟩ w).mono ?_
  rintro e w' ⟨rfl, rfl⟩
  have h1 : Lib.hasPrefix s.data.toList [c] = false := by rw [hasPrefix_headK]; exact h.out
  have h2 : Lib.trimPrefix s.data.toList [c] = s.data.toList := by unfold Lib.trimPrefix; rw [h1]; rfl
  refine ⟨?_, rfl⟩
  show Ending.returned (.tuple #[.string ⟨(Lib.trimPrefix s.data.toList [c]).toArray⟩, .bool (Lib.hasPrefix s.data.toList [c])]) = _
  rw [h1, h2, Lib.mk_data]
theorem cutPrefix_yes (s : ByteArray) (c : UInt8) (w : World) (h : Hid ((s.data.toList.head? == some c) = true)) :
    Calls Tryz.prog 109 #[.string s, .string ⟨#[c]⟩] w fun e w' => e = .returned (.tuple #[.string (s.extract 1 s.size), .bool true]) ∧ w = w' := by
  refine (Tryz.strings_CutPrefix s ⟨#[c]⟩ w).mono ?_
  rintro e w' ⟨rfl, rfl⟩
  have h1 : Lib.hasPrefix s.data.toList [c] = true := by rw [hasPrefix_headK]; exact h.out
  have h2 : Lib.trimPrefix s.data.toList [c] = s.data.toList.drop 1 := by unfold Lib.trimPrefix; rw [h1]; rfl
  refine ⟨?_, rfl⟩
  show Ending.returned (.tuple #[.string ⟨(Lib.trimPrefix s.data.toList [c]).toArray⟩, .bool (Lib.hasPrefix s.data.toList [c])]) = _
  rw [h1, h2, mk_tail]
theorem info9 : (Tryz.prog.info? 9).map (fun i => (i.zero, i.size, i.bytes)) = some (some (.string ⟨#[]⟩), 1, 16) := by kernel_rfl

def strLen : Value → Nat
  | .string s => s.size
  | _ => 0
/-- what the loop of cutParams comes to: from here (rest, acc) the same as from the beginning -/
def CutOut (B : Nat) (r : Option (List Bs × Bs)) (w : World) (e : Ending) (w' : World) : Prop :=
  Below B w w' ∧ match r with
  | none => e = .returned (.tuple #[.slice none 0 0, .string ⟨#[]⟩, .bool false])
  | some (ps, rest) => ∃ v, e = .returned (.tuple #[v, .string (mk rest), .bool true]) ∧ w'.ownsRow B 9 1 v ps.length (ps.map strV)

set_option maxHeartbeats 4000000 in
set_option maxRecDepth 100000 in
theorem cutParams_no (s : ByteArray) (w : World) (hs : s.size ≤ maxLen) (h : Hid ((s.data.toList.head? == some 40) = false)) :
    Calls Tryz.prog 152 #[.string s] w fun e w' => CutOut w.heap.size none w e w' := by
  go_enter Tryz.func152, Tryz.ntmps152
  go_wp2_with (first | (go_at_call 109; (with_reducible refine (cutPrefix_no _ _ _ h).mono ?_); rintro e w' ⟨rfl, rfl⟩))
  go_ret3
  exact ⟨Below.refl _ _, rfl⟩

set_option maxHeartbeats 8000000 in
set_option maxRecDepth 100000 in
theorem cutParams_yes (s : ByteArray) (w : World) (hs : s.size ≤ maxLen) (h : Hid ((s.data.toList.head? == some 40) = true)) (R : Option (List Bs × Bs)) (HR : Hid (parm (s.data.toList.drop 1) [] = R)) :
    Calls Tryz.prog 152 #[.string s] w fun e w' => CutOut w.heap.size R w e w' := by
  obtain ⟨i0, hi0, hz0, hz1, hz2⟩ := info_parts info9
  go_enter Tryz.func152, Tryz.ntmps152
  go_wp2_with (first | (go_at_call 109; (with_reducible refine (cutPrefix_yes _ _ _ h).mono ?_); rintro e w' ⟨rfl, rfl⟩))
  go_loopw [5, 7] (fun t v wr => ∃ (rest : ByteArray) (acc : List Bs) (A : Option Addr) (c : Nat), t = .string rest ∧ v = .slice A acc.length c ∧ rest.size ≤ s.size ∧ acc.length ≤ 20 ∧ Hid (parm rest.data.toList acc = R) ∧ Hid (wr.ownsRow w.heap.size 9 1 (.slice A acc.length c) acc.length (acc.map strV)) ∧ Hid (Below w.heap.size w wr)) (fun t _ _ => strLen t)
  case atStart => exact ⟨_, [], none, 0, rfl, rfl, by rw [extract_sizeK _ _ _ (Nat.le_refl _)]; omega, by simp, Lib.hid (by rw [extract_tailK]; exact HR.out), Lib.hid (World.ownsRow_nil _ _ _ _), Lib.hid (Below.refl _ _)⟩
  case round =>
    obtain ⟨rest, acc, A, c, rfl, rfl, hle, hacc, HP, HO, HW⟩ := hrel
    have hsr : rest.size ≤ maxLen := Nat.le_trans hle hs
    have HS := Lib.hid hsr
    have hS := Lib.hid hs
    clear hs hsr
    cases h41 : (rest.data.toList.head? == some 41)
    case true =>
      have H41 := Lib.hid h41
      have hpos : 0 < rest.size := by have := size_pos_of_head (by simpa using h41); rwa [size_len] at this
      clear h41
      have c1 : (1 : Int) ≤ ↑rest.size := by omega
      have hend := parm_end acc (by simpa using H41.out : rest.data.toList.head? = some 41)
      rw [HP.out] at hend
      have HE := Lib.hid hend
      clear hend
      go_wp2_with (first | (go_at_call 115; (with_reducible refine (hasPrefix_oneK _ 41 _ H41 _).mono ?_); rintro e w' ⟨rfl, rfl⟩))
      go_quiet (fail)
      go_wp2
      go_ret3
      refine ⟨below_drewN HW.out _, ?_⟩
      rw [HE.out]
      exact ⟨_, by rw [mk_tail]; rfl, HO.out⟩
    case false =>
      have H41 := Lib.hid h41
      have hne : rest.data.toList.head? ≠ some 41 := by simpa using h41
      have HN := Lib.hid hne
      clear h41 hne
      obtain ⟨k, hk⟩ : ∃ k, tlen rest.data.toList = k := ⟨_, rfl⟩
      have hkl := tlen_le rest.data.toList
      rw [hk, size_len] at hkl
      have HK := Lib.hid hk
      clear hk
      by_cases h0 : k = 0
      · subst h0
        have HE := Lib.hid (parm_no (acc := acc) HN.out (.inl HK.out))
        go_wp2_with (first | (go_at_call 115; (with_reducible refine (hasPrefix_oneK _ 41 _ H41 _).mono ?_); rintro e w' ⟨rfl, rfl⟩) | (go_at_call 108; (with_reducible refine (cutType_no _ _ HK HS.out).mono ?_); rintro e w' ⟨rfl, n, rfl⟩))
        go_ret3
        refine ⟨below_drewN HW.out _, ?_⟩
        rw [← HP.out, HE.out]
        rfl
      by_cases h20 : acc.length = 20
      · have HE := Lib.hid (parm_no (acc := acc) HN.out (.inr h20))
        have g20 : ((acc.length : Int) == 20) = true := by rw [h20]; rfl
        clear h20
        go_wp2_with (first | (go_at_call 115; (with_reducible refine (hasPrefix_oneK _ 41 _ H41 _).mono ?_); rintro e w' ⟨rfl, rfl⟩) | (go_at_call 108; (with_reducible refine (cutType_yes _ k _ HK h0 HS.out).mono ?_); rintro e w' ⟨rfl, n, rfl⟩))
        go_ret3
        refine ⟨below_drewN HW.out _, ?_⟩
        rw [← HP.out, HE.out]
        rfl
      · have HE := parm_on (acc := acc) HN.out (by rw [HK.out]; exact h0) h20
        rw [HK.out, HP.out] at HE
        have HE' := Lib.hid HE
        clear HE
        have g20 : ((acc.length : Int) == 20) = false := by rw [beq_eq_false_iff_ne]; omega
        have hbw : w.heap.size ≤ wr.heap.size := HW.out.size
        go_wp2_with (first | (go_at_call 115; (with_reducible refine (hasPrefix_oneK _ 41 _ H41 _).mono ?_); rintro e w' ⟨rfl, rfl⟩) | (go_at_call 108; (with_reducible refine (cutType_yes _ k _ HK h0 HS.out).mono ?_); rintro e w' ⟨rfl, n, rfl⟩) | (at_builtin; refine wpList_append_own _ rfl (.tmp 34) (.tmp 36) 34 rfl w.heap.size 9 i0 (.string ⟨#[]⟩) 1 16 Tryz.underlying34 hi0 hz0 hz1 hz2 rfl (by decide) (.slice A acc.length c) acc.length (acc.map strV) rfl ((own_drewN HO.out n).alloc _) ⟨wr.heap.size, 0, none⟩ 1 1 [.string (rest.extract 0 k)] rfl rfl ?c1 ?c2 ?c3 ?c4 ?c5 ?_))
        case c1 => exact one_cell _ _ _
        case c2 => intro u hu; simp at hu; subst hu; rfl
        case c3 => unfold maxLen; omega
        case c4 => omega
        case c5 => simp; omega
        intro v' w1 hown1 hgrow _
        obtain ⟨A', c', rfl⟩ := own_form hown1
        have HO1 := Lib.hid hown1
        have HG := Lib.hid hgrow
        clear hown1 hgrow
        go_wp2
        go_roundw
        case rel => exact ⟨_, acc ++ [rest.data.toList.take k], A', c', rfl, by simp, by rw [extract_sizeK _ _ _ (Nat.le_refl _)]; omega, by simp; omega, Lib.hid (by rw [extract_tailK]; exact HE'.out.symm), Lib.hid (by simpa [strV, ← mk_front] using HO1.out), Lib.hid (((below_drewN HW.out n).alloc hbw _).grown HG.out (by simp; omega) (own_block_ge ((own_drewN HO.out n))))⟩
        case measure => simp [strLen]; omega

/-- what Method answers -/
def MetOut (B : Nat) (r : Option (List Bs × Bs)) (w : World) (e : Ending) (w' : World) : Prop :=
  Below B w w' ∧ match r with
  | none => e = .returned (.tuple #[.slice none 0 0, .string ⟨#[]⟩, .int .i64 21])
  | some (ps, rest) => ∃ v, e = .returned (.tuple #[v, .string (mk rest), .int .i64 0]) ∧ w'.ownsRow B 9 1 v ps.length (ps.map strV)

theorem type_r (s : ByteArray) (r : Bool) (w : World) (hs : Hid (s.size ≤ maxLen)) (h : Hid (typeB s.data.toList = r)) :
    Calls Tryz.prog 53 #[.string s] w fun e w' => e = .returned (.bool r) ∧ ∃ n, w' = w.drewN n := by
  rw [← h.out]
  exact type_any s w hs.out

set_option maxHeartbeats 4000000 in
set_option maxRecDepth 100000 in
theorem method_any (s : ByteArray) (w : World) (hs : s.size ≤ maxLen) :
    Calls Tryz.prog 95 #[.string s] w fun e w' => MetOut w.heap.size (metB s.data.toList) w e w' := by
  cases h40 : (s.data.toList.head? == some 40)
  · have H40 := Lib.hid h40
    rw [metB_head (by simpa using h40)]
    clear h40
    go_enter Tryz.func95, Tryz.ntmps95
    go_wp2_with (first | (go_at_call 152; (with_reducible refine (cutParams_no _ _ hs H40).mono ?_); rintro e w' ⟨hb, rfl⟩))
    go_ret3
    exact ⟨hb, rfl⟩
  have H40 := Lib.hid h40
  clear h40
  cases hp : parm (s.data.toList.drop 1) []
  case none =>
    have HP := Lib.hid hp
    rw [metB_none hp]
    clear hp
    go_enter Tryz.func95, Tryz.ntmps95
    go_wp2_with (first | (go_at_call 152; (with_reducible refine (cutParams_yes _ _ hs H40 none HP).mono ?_); rintro e w' ⟨hb, rfl⟩))
    go_ret3
    exact ⟨hb, rfl⟩
  case some pr =>
    obtain ⟨ps, r⟩ := pr
    have HP := Lib.hid hp
    have hrl := parm_len hp
    have HR : Hid ((mk r).size ≤ maxLen) := Lib.hid (by rw [mk_size]; rw [List.length_drop, size_len] at hrl; omega)
    clear hrl
    have hl : (mk r).toList = r := by rw [Lib.toList_data]
    have HL := Lib.hid hl
    clear hl
    by_cases hV : r = [86]
    · rw [metB_some (by simpa using H40.out) hp (.inl hV)]
      have HV := Lib.hid hV
      have e1 : ((mk r).toList == [86]) = true := by rw [HL.out, hV]; rfl
      have e2 : ((mk r).toList != [86]) = false := by rw [HL.out, hV]; rfl
      clear hp hV
      generalize hq : mk r = q at *
      have HQ := Lib.hid hq
      clear hq
      go_enter Tryz.func95, Tryz.ntmps95
      go_wp2_with (first | (go_at_call 152; (with_reducible refine (cutParams_yes _ _ hs H40 _ HP).mono ?_); rintro e w' ⟨hb, v, rfl, ho⟩; rw [HQ.out]))
      go_ret3
      exact ⟨hb, _, by rw [HQ.out]; rfl, ho⟩
    · have e1 : ((mk r).toList == [86]) = false := by rw [HL.out, beq_eq_false_iff_ne]; exact hV
      have e2 : ((mk r).toList != [86]) = true := by rw [HL.out, bne_iff_ne]; exact hV
      cases hT : typeB r
      · rw [metB_bad hp hV hT]
        have HT : Hid (typeB (mk r).data.toList = false) := Lib.hid (by rw [mk_list]; exact hT)
        clear hp hV hT
        generalize hq : mk r = q at *
        have HQ := Lib.hid hq
        clear hq
        go_enter Tryz.func95, Tryz.ntmps95
        go_wp2_with (first | (go_at_call 152; (with_reducible refine (cutParams_yes _ _ hs H40 _ HP).mono ?_); rintro e w' ⟨hb, v, rfl, ho⟩; rw [HQ.out]) | (go_at_call 53; (with_reducible refine (type_r _ _ _ HR HT).mono ?_); rintro e w' ⟨rfl, n, rfl⟩))
        go_ret3
        exact ⟨below_drewN hb n, rfl⟩
      · rw [metB_some (by simpa using H40.out) hp (.inr hT)]
        have HT : Hid (typeB (mk r).data.toList = true) := Lib.hid (by rw [mk_list]; exact hT)
        clear hp hV hT
        generalize hq : mk r = q at *
        have HQ := Lib.hid hq
        clear hq
        go_enter Tryz.func95, Tryz.ntmps95
        go_wp2_with (first | (go_at_call 152; (with_reducible refine (cutParams_yes _ _ hs H40 _ HP).mono ?_); rintro e w' ⟨hb, v, rfl, ho⟩; rw [HQ.out]) | (go_at_call 53; (with_reducible refine (type_r _ _ _ HR HT).mono ?_); rintro e w' ⟨rfl, n, rfl⟩))
        go_ret3
        exact ⟨below_drewN hb n, _, by rw [HQ.out]; rfl, ho⟩
end Go.Proofs.YtpdnonlelocfbaaGreatDoor.Ds
/- Contract of desc.Kind. -/
namespace Go.Proofs.YtpdnonlelocfbaaGreatDoor.Ds
open Go.RowKit Go
set_option linter.unusedVariables false
theorem beq_tests (s : ByteArray) (c : UInt8) (r : Bool) (h : (s.data.toList == [c]) = r) : (s.toList == [c]) = r := by rw [Lib.toList_data]; exact h
theorem head_at (s : ByteArray) (h : 0 < s.size) : s.data.toList.head? = some s[0] := by
  rw [List.head?_eq_getElem?, List.getElem?_eq_getElem (by simpa using h)]
  rfl
def kindI (l : Bs) : Int := if l = [73] then 1 else if l = [74] then 2 else if l = [78] ∨ l.head? = some 76 ∨ l.head? = some 91 then 3 else 0
set_option maxHeartbeats 4000000 in
set_option maxRecDepth 100000 in
theorem kind_any (s : ByteArray) (w : World) :
    Calls Tryz.prog 184 #[.string s] w fun e w' => e = .returned (.int .i64 (kindI s.data.toList)) ∧ w = w' := by
  cases hI : (s.data.toList == [73])
  case true =>
    have e1 := beq_tests s 73 _ hI
    have hk : kindI s.data.toList = 1 := by unfold kindI; rw [if_pos (by simpa using hI)]
    rw [hk]
    clear hk hI
    go_enter Tryz.func184, Tryz.ntmps184
    go_wp2_with (fail)
    go_ret
    exact ⟨rfl, rfl⟩
  have e1 := beq_tests s 73 _ hI
  cases hJ : (s.data.toList == [74])
  case true =>
    have e2 := beq_tests s 74 _ hJ
    have hk : kindI s.data.toList = 2 := by unfold kindI; rw [if_neg (by simpa using hI), if_pos (by simpa using hJ)]
    rw [hk]
    clear hk hI hJ
    go_enter Tryz.func184, Tryz.ntmps184
    go_wp2_with (fail)
    go_ret
    exact ⟨rfl, rfl⟩
  have e2 := beq_tests s 74 _ hJ
  have hk : kindI s.data.toList = if s.data.toList = [78] ∨ s.data.toList.head? = some 76 ∨ s.data.toList.head? = some 91 then 3 else 0 := by unfold kindI; rw [if_neg (by simpa using hI), if_neg (by simpa using hJ)]
  have HK := Lib.hid hk
  clear hk hI hJ
  cases hN : (s.data.toList == [78])
  case true =>
    have e3 := beq_tests s 78 _ hN
    have HN := Lib.hid hN
    clear hN
    go_enter Tryz.func184, Tryz.ntmps184
    go_wp2_with (fail)
    go_ret
    exact ⟨ret_int (by rw [HK.out, if_pos (.inl (by simpa using HN.out))]), rfl⟩
  have e3 := beq_tests s 78 _ hN
  cases hL : (s.data.toList.head? == some 76) <;> cases hA : (s.data.toList.head? == some 91)
  all_goals
    have HN := Lib.hid hN
    have HL := Lib.hid hL
    have HA := Lib.hid hA
    clear hN hL hA
    go_enter Tryz.func184, Tryz.ntmps184
    go_wp2_with (go_at_call 115; (first | (with_reducible refine (hasPrefix_oneK _ 76 _ HL _).mono ?_) | (with_reducible refine (hasPrefix_oneK _ 91 _ HA _).mono ?_)); rintro e w' ⟨rfl, rfl⟩)
    go_ret
    have h1 := HN.out
    have h2 := HL.out
    have h3 := HA.out
    simp only [beq_eq_false_iff_ne, beq_iff_eq] at h1 h2 h3
    exact ⟨ret_int (by rw [HK.out]; simp [h1, h2, h3]), rfl⟩

end Go.Proofs.YtpdnonlelocfbaaGreatDoor.Ds
