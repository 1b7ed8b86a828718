/- Contract of desc.Element, and small words on bytes. -/
import Derived.Test.YtogbieehpppnaaaDescMethod
import Derived.Test.YtogbieehpppnaaaRefType
namespace Go.Proofs.Ytogbieehpppnaaa
open Go.RowKit Go
set_option linter.unusedVariables false

def elemL (l : Bs) : Bs := if l.head? = some 91 then l.drop 1 else []
theorem ret_str {a b : ByteArray} (h : a = b) : Ending.returned (.string a) = .returned (.string b) := by rw [h]
theorem beq_tests (s : ByteArray) (c : UInt8) (r : Bool) (h : (s.data.toList == [c]) = r) : (s.toList == [c]) = r := by rw [Lib.toList_data]; exact h
set_option maxHeartbeats 1000000 in
theorem element_any (s : ByteArray) (w : World) :
    Calls Try.prog 25 #[.string s] w fun e w' => e = .returned (.string (mk (elemL s.data.toList))) ∧ w = w' := by
  cases hA : (s.data.toList.head? == some 91)
  · have HA := Lib.hid hA
    go_enter Try.func25, Try.ntmps25
    go_wp2_with (go_at_call 37; (with_reducible refine (cutPrefix_no _ 91 _ HA).mono ?_); rintro e w' ⟨rfl, rfl⟩)
    go_ret
    refine ⟨ret_str ?_, rfl⟩
    unfold elemL
    rw [if_neg (by simpa using HA.out)]
  · have HA := Lib.hid hA
    go_enter Try.func25, Try.ntmps25
    go_wp2_with (go_at_call 37; (with_reducible refine (cutPrefix_yes _ 91 _ HA).mono ?_); rintro e w' ⟨rfl, rfl⟩)
    go_ret
    refine ⟨ret_str ?_, rfl⟩
    unfold elemL
    rw [if_pos (by simpa using HA.out), mk_tail]
theorem head_at (s : ByteArray) (h : 0 < s.size) : s.data.toList.head? = some s[0] := by
  rw [List.head?_eq_getElem?, List.getElem?_eq_getElem (by simpa using h)]
  rfl
theorem last_at (s : ByteArray) (h : 1 < s.size) : (s.data.toList.drop 1).getLast? = some s[s.size - 1] := by
  rw [List.getLast?_eq_getElem?, List.getElem?_drop, List.length_drop, size_len, show 1 + (s.size - 1 - 1) = s.size - 1 by omega, List.getElem?_eq_getElem (by simpa using (by omega : s.size - 1 < s.size))]
  rfl
theorem u8_ne (c : UInt8) (n : Nat) (h : n < 256) (r : Bool) (hr : (c == n.toUInt8) = r) : ((c.toNat : Int) != (n : Int)) = !r := by
  rw [bne, u8_lit c n h r hr]
end Go.Proofs.Ytogbieehpppnaaa
