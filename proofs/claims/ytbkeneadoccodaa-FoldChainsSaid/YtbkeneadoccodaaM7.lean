/- Texts of this claim, joined: CShelf, CRefName. -/
import Derived.Shelf.Strings.Search1
import Derived.Shelf.Strings.Search2
import Derived.Shelf.Strings.Search3
import Derived.Shelf.Strings.Cut
import Derived.Shelf.LaysM
import Derived.Shelf.Strings.Shaped
import Derived.Shelf.Strings.Prefix
import Derived.Test.YtbkeneadoccodaaProg
import Derived.Test.YtbkeneadoccodaaM1
/- Contracts of the library's functions at this translation: each is one application of a theorem of the given library. -/
namespace Go.Proofs
open Go.Shelf
def Try.lays219_ren : Go.Shelf.Ren := ⟨fun | 219 => 133 | 217 => 137 | 225 => 138 | 224 => 139 | 267 => 140 | 266 => 145 | 314 => 146 | n => n, fun | 9 => 9 | 3 => 3 | 4 => 4 | 5 => 5 | 46 => 140 | 146 => 174 | 51 => 162 | n => n, fun | 1 => 0 | n => n⟩
theorem Try.lays219 : Go.Proofs.Lays.n219 Try.prog Try.lays219_ren := {
 mixed := by kernel_rfl
 f217 := Try.func137.trans (congrArg some (by kernel_rfl))
 f219 := Try.func133.trans (congrArg some (by kernel_rfl))
 f224 := Try.func139.trans (congrArg some (by kernel_rfl))
 f225 := Try.func138.trans (congrArg some (by kernel_rfl))
 f266 := Try.func145.trans (congrArg some (by kernel_rfl))
 f267 := Try.func140.trans (congrArg some (by kernel_rfl))
 f314 := Try.func146.trans (congrArg some (by kernel_rfl))
 t3 := Try.underlying3
 a3 := Try.isAgg3
 z3 := Try.sizeOf3
 v3 := Try.zeroValue3
 t4 := Try.underlying4
 a4 := Try.isAgg4
 z4 := Try.sizeOf4
 v4 := Try.zeroValue4
 t5 := Try.underlying5
 a5 := Try.isAgg5
 z5 := Try.sizeOf5
 v5 := Try.zeroValue5
 t9 := Try.underlying9
 a9 := Try.isAgg9
 z9 := Try.sizeOf9
 v9 := Try.zeroValue9
 t46 := Try.underlying140
 a46 := Try.isAgg140
 z46 := Try.sizeOf140
 v46 := Try.zeroValue140
 t51 := Try.underlying162
 a51 := Try.isAgg162
 z51 := Try.sizeOf162
 v51 := Try.zeroValue162
 t146 := Try.underlying174
 a146 := Try.isAgg174
 z146 := Try.sizeOf174
 v146 := Try.zeroValue174
 g1 := by kernel_rfl }
open Go.RowKit Go.Lib in
theorem Try.stringslite_Index_one (s : ByteArray) (c : UInt8) (w : World) :
  Calls Try.prog 133 #[.string s, .string ⟨#[c]⟩] w fun e w' => e = .returned (.int .i64 (Lib.indexByte s.data.toList c)) ∧ w' = w := Any.stringslite_Index_one Try.lays219 s c w
def Try.lays144_ren : Go.Shelf.Ren := ⟨fun | 144 => 117 | 143 => 125 | 219 => 133 | 217 => 137 | 225 => 138 | 224 => 139 | 267 => 140 | 266 => 145 | 314 => 146 | n => n, fun | 9 => 9 | 4 => 4 | 3 => 3 | 5 => 5 | 46 => 140 | 146 => 174 | 51 => 162 | n => n, fun | 1 => 0 | n => n⟩
theorem Try.lays144 : Go.Proofs.Lays.n144 Try.prog Try.lays144_ren := {
 mixed := by kernel_rfl
 f143 := Try.func125.trans (congrArg some (by kernel_rfl))
 f144 := Try.func117.trans (congrArg some (by kernel_rfl))
 f217 := Try.func137.trans (congrArg some (by kernel_rfl))
 f219 := Try.func133.trans (congrArg some (by kernel_rfl))
 f224 := Try.func139.trans (congrArg some (by kernel_rfl))
 f225 := Try.func138.trans (congrArg some (by kernel_rfl))
 f266 := Try.func145.trans (congrArg some (by kernel_rfl))
 f267 := Try.func140.trans (congrArg some (by kernel_rfl))
 f314 := Try.func146.trans (congrArg some (by kernel_rfl))
 t3 := Try.underlying3
 a3 := Try.isAgg3
 z3 := Try.sizeOf3
 v3 := Try.zeroValue3
 t4 := Try.underlying4
 a4 := Try.isAgg4
 z4 := Try.sizeOf4
 v4 := Try.zeroValue4
 t5 := Try.underlying5
 a5 := Try.isAgg5
 z5 := Try.sizeOf5
 v5 := Try.zeroValue5
 t9 := Try.underlying9
 a9 := Try.isAgg9
 z9 := Try.sizeOf9
 v9 := Try.zeroValue9
 t46 := Try.underlying140
 a46 := Try.isAgg140
 z46 := Try.sizeOf140
 v46 := Try.zeroValue140
 t51 := Try.underlying162
 a51 := Try.isAgg162
 z51 := Try.sizeOf162
 v51 := Try.zeroValue162
 t146 := Try.underlying174
 a146 := Try.isAgg174
 z146 := Try.sizeOf174
 v146 := Try.zeroValue174
 g1 := by kernel_rfl }
open Go.RowKit Go.Lib in
theorem Try.strings_Contains_one (s : ByteArray) (c : UInt8) (w : World) :
  Calls Try.prog 117 #[.string s, .string ⟨#[c]⟩] w fun e w' => e = .returned (.bool (decide (0 ≤ Lib.indexByte s.data.toList c))) ∧ w' = w := Any.strings_Contains_one Try.lays144 s c w
def Try.lays99_ren : Go.Shelf.Ren := ⟨fun | 99 => 134 | 206 => 141 | n => n, fun | 9 => 9 | 4 => 4 | 3 => 3 | n => n, fun | n => n⟩
theorem Try.lays99 : Go.Proofs.Lays.n99 Try.prog Try.lays99_ren := {
 mixed := by kernel_rfl
 f99 := Try.func134.trans (congrArg some (by kernel_rfl))
 f206 := Try.func141.trans (congrArg some (by kernel_rfl))
 t3 := Try.underlying3
 a3 := Try.isAgg3
 z3 := Try.sizeOf3
 v3 := Try.zeroValue3
 t4 := Try.underlying4
 a4 := Try.isAgg4
 z4 := Try.sizeOf4
 v4 := Try.zeroValue4
 t9 := Try.underlying9
 a9 := Try.isAgg9
 z9 := Try.sizeOf9
 v9 := Try.zeroValue9 }
open Go.RowKit Go.Lib in
theorem Try.strings_HasPrefix (s p : ByteArray) (w : World) :
  Calls Try.prog 134 #[.string s, .string p] w fun e w' => e = .returned (.bool (Lib.hasPrefix s.data.toList p.data.toList)) ∧ w' = w := Any.strings_HasPrefix Try.lays99 s p w
end Go.Proofs
/- Contract of the document's Name: for all texts it answers nameB. -/
namespace Go.Proofs.Ytbkeneadoccodaa
open Go.RowKit Go
set_option linter.unusedVariables false
def mayL : Bs := [97, 98, 99, 100, 101, 102, 103, 104, 105, 106, 107, 108, 109, 110, 111, 112, 113, 114, 115, 116, 117, 118, 119, 120, 121, 122, 65, 66, 67, 68, 69, 70, 71, 72, 73, 74, 75, 76, 77, 78, 79, 80, 81, 82, 83, 84, 85, 86, 87, 88, 89, 90, 48, 49, 50, 51, 52, 53, 54, 55, 56, 57, 95, 36, 47]
theorem may_f : ∀ n : Fin 256, decide (0 ≤ Lib.indexByte mayL (UInt8.ofNat n.val)) = okc false (UInt8.ofNat n.val) := by decide +kernel
theorem may_t : ∀ n : Fin 256, decide (0 ≤ Lib.indexByte (mayL ++ [60, 62]) (UInt8.ofNat n.val)) = okc true (UInt8.ofNat n.val) := by decide +kernel
theorem may_any (b : Bool) (c : UInt8) : decide (0 ≤ Lib.indexByte (mayL ++ if b then [60, 62] else []) c) = okc b c := by
 have hc : c.toNat < 256 := c.toNat_lt
 have e : UInt8.ofNat c.toNat = c := by simp
 cases b
 ·have := may_f ⟨c.toNat, hc⟩
  simpa [e] using this
 ·have := may_t ⟨c.toNat, hc⟩
  simpa [e] using this
theorem extract_one (s : ByteArray) (k : Nat) (h : k < s.size) : s.extract k (k + 1) = ⟨#[s[k]]⟩ := by
 rw [Lib.extract_eq]
 congr 1
 have : (s.data.toList.drop k).take (k + 1 - k) = [s[k]] := by
  rw [show k + 1 - k = 1 by omega, List.drop_eq_getElem_cons (by simpa using h)]
  simp
  rfl
 rw [this]
theorem contains_may (t u : ByteArray) (c : UInt8) (b r : Bool) (w : World) (ht : Hid (t.data.toList = mayL ++ if b then [60, 62] else [])) (hu : Hid (u = ⟨#[c]⟩)) (hr : Hid (okc b c = r)) :
  Calls Try.prog 117 #[.string t, .string u] w fun e w' => e = .returned (.bool r) ∧ w = w' := by
 rw [hu.out]
 refine (Try.strings_Contains_one t c w).mono ?_
 rintro e w' ⟨rfl, rfl⟩
 rw [ht.out, may_any, hr.out]
 exact ⟨rfl, rfl⟩
theorem nameB_end (s : ByteArray) (b : Bool) (h : allB s.data.toList b = true) (hn : s.size ≠ 0) : nameB s.data.toList b = decide ((s.size : Int) ≤ 60) := by
 unfold nameB
 unfold allB at h
 rw [h, size_len, decide_eq_true (by omega)]
 simp
 omega
theorem size_toList (s : ByteArray) : s.toList.length = s.size := by rw [Lib.toList_data]; simp
set_option maxHeartbeats 1000000 in
set_option maxRecDepth 100000 in
theorem refName_core (s : ByteArray) (b m : Bool) (HB : Hid (b = m)) (w : World) (hs : s.size ≤ maxLen) :
    Calls Try.prog 93 #[.string s, .bool m] w fun e w' => e = .returned (.bool (nameB s.data.toList b)) ∧ w = w' := by
  unfold maxLen at hs
  cases m
  all_goals
    go_enter Try.func93, Try.ntmps93
    go_wp2_with (fail)
    go_loop [6] (fun n => ∃ k : Nat, k ≤ s.size ∧ n = .int .i64 k ∧ Hid (allB (s.data.toList.take k) b = true)) (fun n => s.size - (intOf n).toNat)
    case atStart => exact ⟨0, Nat.zero_le _, rfl, Lib.hid (allB_nil _)⟩
    case round =>
      obtain ⟨k, hk, rfl, HA⟩ := hrel
      by_cases hlt : k < s.size
      · have HU := Lib.hid (extract_one s k hlt)
        have c1 : (0 : Int) ≤ ↑k := by omega
        have c2 : (↑k : Int) ≤ ↑k + 1 := by omega
        have c3 : (↑k + 1 : Int) ≤ ↑s.size := by omega
        have c4 : (0 : Int) ≤ ↑k + 1 := by omega
        cases hok : okc b s[k]
        all_goals
          have HO := Lib.hid hok
          clear hok
          go_wp2_with (go_at_call 117; refine (contains_may _ _ s[k] b _ _ (Lib.hid (by rw [HB.out]; rfl)) HU HO).mono ?_; rintro e w' ⟨rfl, rfl⟩)
          first
          | (go_ret
             refine ⟨ret_bool ?_, rfl⟩
             have := allB_bad s b k hlt HO.out
             unfold nameB
             unfold allB at this
             rw [this]
             simp)
          | (go_round
             case rel => exact ⟨trivial, _, _, _, _, _, _, _, _, _, _, _, _, _, _, _, _, ⟨k + 1, by omega, by go_num, Lib.hid (by rw [allB_succ s b k hlt, HA.out, HO.out]; rfl)⟩, rfl⟩
             case measure => simp [intOf]; omega)
      · have hke : s.data.toList.take k = s.data.toList := List.take_of_length_le (by rw [size_len]; omega)
        have HE := Lib.hid hke
        clear hke
        by_cases h0 : s.toList = []
        · have h0' : (!s.toList.isEmpty) = false := by simp [h0]
          have hz : s.size = 0 := by rw [← size_toList, h0]; rfl
          have HZ := Lib.hid hz
          clear hz
          go_wp2_with (fail)
          go_ret
          refine ⟨ret_bool ?_, rfl⟩
          rw [nameB_out s b (.inl (by rw [HZ.out]; omega))]
        · have h0' : (!s.toList.isEmpty) = true := by simp [h0]
          have hz : s.size ≠ 0 := by rw [← size_toList]; intro e; exact h0 (List.eq_nil_of_length_eq_zero e)
          go_wp2_with (fail)
          go_ret
          refine ⟨ret_bool ?_, rfl⟩
          have := HA.out
          rw [HE.out] at this
          rw [nameB_end s b this hz]
theorem refName_any (s : ByteArray) (m : Bool) (w : World) (hs : s.size ≤ maxLen) :
  Calls Try.prog 93 #[.string s, .bool m] w fun e w' => e = .returned (.bool (nameB s.data.toList m)) ∧ w = w' := refName_core s m m (Lib.hid rfl) w hs
end Go.Proofs.Ytbkeneadoccodaa
