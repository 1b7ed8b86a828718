/- The walk of PoolTexts. -/
import Derived.Test.YtogbieehpppnaaaPoolOpen
import Derived.Test.YtogbieehpppnaaaPoolReads
import Derived.Test.YtogbieehpppnaaaPoolLay2
import Derived.Lib.AppendStr
import Derived.OwnWalk
namespace Go.Proofs.Ytogbieehpppnaaa
open Go.RowKit Go
set_option linter.unusedVariables false

/-- v is a slice whose texts are T. -/
def RdT (w : World) (v : Value) (T : List ByteArray) : Prop :=
  ∃ A cap, v = .slice A T.length cap ∧ ∀ (i : Nat) (s : ByteArray), T[i]? = some s → ∃ b o, A = some ⟨b, o, none⟩ ∧ w.cell? ⟨b, o + i, none⟩ = some (.string s)
def byV (l : Bs) : List Value := l.map fun c => .int .u8 (c.toNat : Int)
/-- v is a slice of bytes that the call owns, in a block from B on; below B nothing has turned. -/
def Buf (B : Nat) (W w : World) (v : Value) (l : Bs) : Prop := w.ownsRow B 5 1 v l.length (byV l) ∧ Below B W w ∧ B ≤ w.heap.size
theorem Buf.form {B : Nat} {W w : World} {v : Value} {l : Bs} (h : Buf B W w v l) : ∃ A cap, v = .slice A l.length cap := by
  rcases h.1.2 with ⟨rfl, h0⟩ | ⟨g, cap, cur, rfl, _⟩
  · exact ⟨none, 0, by rw [h0]⟩
  · exact ⟨_, _, rfl⟩
theorem buf_new {B : Nat} {W w : World} (h : Below B W w) (hB : B ≤ w.heap.size) (l : Bs) (n : Nat) (c : Array Value) (hc : c.toList = byV l) (hn : n = l.length) (hm : n ≤ maxLen) : Buf B W (w.alloc (.cells c 5)) (.slice (some ⟨w.heap.size, 0, none⟩) n n) l := by
  subst hn
  have hl : c.size = l.length := by
    rw [← Array.length_toList, hc]
    simp [byV]
  refine ⟨⟨by simp [byV], .inr ⟨w.heap.size, l.length, c, rfl, hB, heap_alloc_new w _, Nat.le_refl _, hm, by omega, ?_⟩⟩, h.alloc hB _, by simp; omega⟩
  rw [hc, List.take_of_length_le (by simp [byV])]
theorem hiB_nat (n : Nat) (h : n < 65536) : ((hiB n).toNat : Int) = (n : Int) / 256 := by
  unfold hiB
  rw [UInt8.toNat_ofNat', Nat.mod_eq_of_lt (by omega)]
  omega
theorem loB_nat (n : Nat) : ((loB n).toNat : Int) = (n : Int) % 256 := by
  unfold loB
  rw [UInt8.toNat_ofNat']
  omega
theorem rdT_at {w : World} {A : Option Addr} {T : List ByteArray} (h : ∀ (i : Nat) (s : ByteArray), T[i]? = some s → ∃ b o, A = some ⟨b, o, none⟩ ∧ w.cell? ⟨b, o + i, none⟩ = some (.string s)) {i : Nat} {s : ByteArray} (hs : T[i]? = some s) : ∃ b o, A = some ⟨b, o, none⟩ ∧ b < w.heap.size ∧ w.cell? ⟨b, o + i, none⟩ = some (.string s) := by
  obtain ⟨b, o, h1, h2⟩ := h i s hs
  exact ⟨b, o, h1, World.block_lt_of_cell? w _ h2, h2⟩
theorem byV_app (a b : Bs) : byV (a ++ b) = byV a ++ byV b := by simp [byV]
theorem strCells_byV (s : ByteArray) : Lib.strCells s = byV s.data.toList := rfl
theorem cells3 (w : World) (a b c : Value) (t : Nat) : ∀ (j : Nat) u, [a, b, c][j]? = some u → (w.alloc (.cells #[a, b, c] t)).cell? ((⟨w.heap.size, 0, none⟩ : Addr).add j) = some u
  | 0, u, hu | 1, u, hu | 2, u, hu => by
    cases hu
    exact World.cell?_alloc_at _ _ _ _ rfl
  | j + 3, u, hu => by simp at hu
theorem buf_grown {B : Nat} {W w w' : World} {v v' : Value} {l : Bs} (h : Buf B W w v l) (m : Bs) {n : Nat} {xs : List Value} (hn : n = (l ++ m).length) (hx : xs = byV (l ++ m)) (ho : w'.ownsRow B 5 1 v' n xs) (hg : w.grownBy w' v.ownBlock) : Buf B W w' v' (l ++ m) := by
  subst hn hx
  exact ⟨ho, h.2.1.grown hg h.2.2 (fun k hk => (h.1.lt k hk).1), Nat.le_trans h.2.2 hg.size⟩
theorem buf_alloc {B : Nat} {W w : World} {v : Value} {l : Bs} (h : Buf B W w v l) (o : Obj) : Buf B W (w.alloc o) v l :=
  ⟨h.1.alloc o, h.2.1.alloc h.2.2 o, by have := h.2.2; simp; omega⟩
theorem cells1 (w : World) (a : Value) (t : Nat) : ∀ (j : Nat) u, [a][j]? = some u → (w.alloc (.cells #[a] t)).cell? ((⟨w.heap.size, 0, none⟩ : Addr).add j) = some u
  | 0, u, hu => by
    cases hu
    exact World.cell?_alloc_at _ _ _ _ rfl
  | j + 1, u, hu => by simp at hu
theorem buf_rd {B : Nat} {W w : World} {v : Value} {l : Bs} (h : Buf B W w v l) : RdB w v l := by
  rcases h.1.2 with ⟨rfl, h0⟩ | ⟨g, cap, cur, rfl, _, hh, hle, hm, hsz, htk⟩
  · exact .inl ⟨rfl, List.length_eq_zero_iff.1 h0⟩
  · refine .inr ⟨g, 0, cap, rfl, hle, hm, fun i c hc => ?_⟩
    rw [Nat.zero_add]
    refine heap_cell hh ?_
    have hil := (List.getElem?_eq_some_iff.1 hc).1
    have h1 : (byV l)[i]? = some (.int .u8 (c.toNat : Int)) := by unfold byV; rw [List.getElem?_map, hc]; rfl
    rw [← htk, List.getElem?_take_of_lt (by omega)] at h1
    simpa using h1
theorem infoU8 : (Try.prog.info? 5).map (fun i => (i.zero, i.size, i.bytes)) = some (some (.int .u8 0), 1, 1) := by kernel_rfl
set_option maxHeartbeats 8000000 in
set_option maxRecDepth 100000 in
theorem PoolTexts_walk (v0 v1 : Value) (T : List ByteArray) (Z : List Int) (w : World) (h0 : RdT w v0 T) (h1 : RdI w v1 Z) (hT : T.length ≤ 140737488355328) (hZ : Z.length ≤ 140737488355328) (hb : ∀ z ∈ Z, -9223372036854775808 ≤ z ∧ z ≤ 9223372036854775807) :
    Calls Try.prog 5 #[v0, v1] w fun e w' => e = .returned (.bool true) ∧ Below w.heap.size w w' := by
  obtain ⟨A0, cap0, rfl, hT0⟩ := h0
  obtain ⟨A1, cap1, rfl, hzm⟩ := rdI_form h1
  have HT := lhid hT0
  have HZ := lhid h1
  have HZB := lhid hb
  clear hT0 h1 hb hzm
  by_cases hn : (1000 : Int) < T.length + 2 * Z.length + 1
  · go_enter Try.func5, Try.ntmps5
    go_wp2_with fail
    with_reducible refine (holds_any _).mono ?_
    rintro e w1 ⟨rfl, hw⟩
    have HW := lhid hw
    clear hw
    go_wp2_with fail
    go_ret
    exact ⟨rfl, HW.out⟩
  go_enter Try.func5, Try.ntmps5
  go_wp2_with fail
  with_reducible refine (holds_any _).mono ?_
  rintro e w1 ⟨rfl, hw⟩
  have HW := lhid hw
  have hw1 := hw.size
  clear hw
  go_wp2_with fail
  have HBUF : Hid (Buf w.heap.size w (w1.alloc (.cells #[.int .u8 ((↑T.length + 2 * ↑Z.length + 1) / 256), .int .u8 ((↑T.length + 2 * ↑Z.length + 1) % 256)] 5)) (.slice (some ⟨w1.heap.size, 0, none⟩) 2 2) (laidT T Z 0)) := lhid (by
    have e : laidT T Z 0 = headT T Z := by unfold laidT; simp
    rw [e]
    refine buf_new HW.out hw1 _ 2 _ ?_ rfl (by unfold maxLen; omega)
    unfold headT byV
    simp only [List.map_cons, List.map_nil]
    rw [hiB_nat _ (by omega), loB_nat]
    simp)
  obtain ⟨i0, hi0, hz0, hz1, hz2⟩ := info_parts infoU8
  go_loopw [39, 6] (fun i v wr => ∃ (k : Nat) (l : Bs) (A : Option Addr) (c : Nat), i = .int .i64 k ∧ v = .slice A l.length c ∧ k ≤ T.length ∧ l.length ≤ 2 + 1003 * k ∧ Hid (l = laidT T Z k) ∧ Hid (∀ (j : Nat) s, j < k → T[j]? = some s → s.size ≤ 1000) ∧ Hid (Buf w.heap.size w wr (.slice A l.length c) l)) (fun i _ _ => T.length - (intOf i).toNat)
  case atStart => exact ⟨0, laidT T Z 0, some ⟨w1.heap.size, 0, none⟩, 2, rfl, rfl, Nat.zero_le _, by simp [laidT, headT], lhid rfl, lhid (by intro j s hj; omega), HBUF⟩
  case round =>
    obtain ⟨k, l, A, c, rfl, rfl, hk, hll, HL, HSM, HBF⟩ := hrel
    by_cases hlt : k < T.length
    · obtain ⟨s, hs⟩ : ∃ s, T[k]? = some s := ⟨_, List.getElem?_eq_getElem hlt⟩
      obtain ⟨b, o, rfl, hbl, hcw⟩ := rdT_at HT.out hs
      have hcell := (HBF.out.2.1.cell (p := ⟨b, o + k, none⟩) hbl).trans hcw
      have HS := lhid hs
      clear hcw hs
      by_cases hbig : (1000 : Int) < s.size
      · go_wp2_with fail
        go_ret
        exact ⟨rfl, HBF.out.2.1⟩
      have hs1 : s.size ≤ 1000 := by omega
      have hbw := HBF.out.2.2
      go_wp2_with (first | (at_builtin; refine wpList_append_own _ rfl (.tmp 46) (.tmp 54) 22 rfl w.heap.size 5 i0 (.int .u8 0) 1 1 Try.underlying22 hi0 hz0 hz1 hz2 rfl (by decide) (.slice A l.length c) l.length (byV l) rfl (HBF.out.1.alloc _) ⟨_, 0, none⟩ 3 3 [.int .u8 1, .int .u8 ((s.size : Int) / 256), .int .u8 ((s.size : Int) % 256)] rfl rfl ?c1 ?c2 ?c3 ?c4 ?c5 ?_))
      case c2 => exact ⟨rfl, rfl, rfl⟩
      case c3 => unfold maxLen; omega
      case c4 => omega
      case c5 => omega
      intro v' w2 hown hgrow _
      have hb2 : Buf w.heap.size w w2 v' (l ++ [1, hiB s.size, loB s.size]) := buf_grown (buf_alloc HBF.out _) [1, hiB s.size, loB s.size] (by simp) (by rw [byV_app]; simp only [byV, List.map_cons, List.map_nil]; rw [hiB_nat _ (by omega), loB_nat]; rfl) hown hgrow
      obtain ⟨A2, cc, rfl⟩ := hb2.form
      have HB2 := lhid hb2
      have hb2w := hb2.2.2
      have hl2 : (l ++ [1, hiB s.size, loB s.size]).length = l.length + 3 := by simp
      have HL2 := lhid hl2
      rw [hl2]
      clear hown hgrow hb2 hl2
      go_wp2_with (first | (at_builtin; refine Lib.wpList_append_own_string _ rfl (.tmp 56) (.tmp 57) 22 9 rfl w.heap.size 5 i0 Try.underlying22 Try.underlying9 hi0 hz0 hz1 hz2 (.slice A2 (l.length + 3) cc) (l.length + 3) (byV (l ++ [1, hiB s.size, loB s.size])) rfl (by rw [← HL2.out]; exact HB2.out.1) s rfl ?d3 ?d4 ?d5 ?_))
      case d3 => unfold maxLen; omega
      case d4 => omega
      case d5 => omega
      intro v' w3 hown hgrow _
      have hb3 : Buf w.heap.size w w3 v' (l ++ [1, hiB s.size, loB s.size] ++ s.data.toList) := buf_grown HB2.out s.data.toList (by rw [List.length_append, HL2.out, size_len]) (by rw [byV_app (l ++ [1, hiB s.size, loB s.size])]; rfl) hown (by rw [← HL2.out] at hgrow; exact hgrow)
      obtain ⟨A3, c3, rfl⟩ := hb3.form
      have HB3 := lhid hb3
      have hl3 : (l ++ [1, hiB s.size, loB s.size] ++ s.data.toList).length = l.length + 3 + s.size := by rw [List.length_append, HL2.out, size_len]
      clear hown hgrow hb3
      obtain ⟨l3, hl3e⟩ : ∃ l3, l ++ [1, hiB s.size, loB s.size] ++ s.data.toList = l3 := ⟨_, rfl⟩
      rw [hl3e] at HB3 hl3 ⊢
      have HL3 : Hid (l3 = laidT T Z (k + 1)) := lhid (by rw [laidT_succ T Z k s HS.out, ← HL.out, ← hl3e]; simp)
      have HSM3 : Hid (∀ (j : Nat) s, j < k + 1 → T[j]? = some s → s.size ≤ 1000) := lhid (by
        intro j s' hj hs'
        rcases Nat.lt_or_ge j k with hjk | hjk
        · exact HSM.out j s' hjk hs'
        · obtain rfl : j = k := by omega
          have := HS.out
          rw [hs'] at this
          cases this
          exact hs1)
      clear hl3e
      go_wp2_with fail
      go_roundw
      case rel => exact ⟨k + 1, l3, A3, c3, by go_num, rfl, by omega, by omega, HL3, HSM3, HB3⟩
      case measure => simp [intOf]; omega
    · have hke : k = T.length := by omega
      subst hke
      have HLT : Hid (l = laidN T Z 0) := lhid (by rw [HL.out]; unfold laidN; simp)
      have HSMA : Hid (∀ (j : Nat) s, T[j]? = some s → s.size ≤ 1000) := lhid (fun j s hs => HSM.out j s (List.getElem?_eq_some_iff.1 hs).1 hs)
      have hll2 : l.length ≤ 2 + 1003 * T.length := by omega
      clear hll
      go_wp2_with fail
      go_loopw [62, 6] (fun i v wr => ∃ (k : Nat) (l : Bs) (A : Option Addr) (c : Nat), i = .int .i64 k ∧ v = .slice A l.length c ∧ k ≤ Z.length ∧ l.length ≤ 2 + 1003 * T.length + 14 * k ∧ Hid (l = laidN T Z k) ∧ Hid (Buf w.heap.size w wr (.slice A l.length c) l)) (fun i _ _ => Z.length - (intOf i).toNat)
      case atStart => exact ⟨0, l, A, c, rfl, rfl, Nat.zero_le _, by omega, HLT, HBF⟩
      case round =>
        clear HL HSM HBF HLT hll2
        obtain ⟨k2, l2, A2, c2, rfl, rfl, hk2, hll2, HL2, HBF2⟩ := hrel
        by_cases hlt2 : k2 < Z.length
        · obtain ⟨z, hz⟩ : ∃ z, Z[k2]? = some z := ⟨_, List.getElem?_eq_getElem hlt2⟩
          obtain ⟨b, o, rfl, hbl, hcw⟩ := rdI_at HZ.out hz
          have hcell := (HBF2.out.2.1.cell (p := ⟨b, o + k2, none⟩) hbl).trans hcw
          have HZZ := lhid hz
          clear hcw hz
          have hbw := HBF2.out.2.2
          go_wp2_with (first | (at_builtin; refine wpList_append_own _ rfl (.tmp 66) (.tmp 67) 22 rfl w.heap.size 5 i0 (.int .u8 0) 1 1 Try.underlying22 hi0 hz0 hz1 hz2 rfl (by decide) (.slice A2 l2.length c2) l2.length (byV l2) rfl (HBF2.out.1.alloc _) ⟨_, 0, none⟩ 1 1 [.int .u8 3] rfl rfl (cells1 _ _ _) ?f2 ?f3 ?f4 ?f5 ?_))
          case f2 => intro u hu; simp at hu; subst hu; rfl
          case f3 => unfold maxLen; omega
          case f4 => omega
          case f5 => simp; omega
          intro v' w2 hown hgrow _
          have hb2 : Buf w.heap.size w w2 v' (l2 ++ [3]) := buf_grown (buf_alloc HBF2.out _) [3] (by simp) (by rw [byV_app]; rfl) hown hgrow
          obtain ⟨A4, c4, rfl⟩ := hb2.form
          have HB4 := lhid hb2
          clear hown hgrow hb2
          -- inner
          obtain ⟨l3, hl3e⟩ : ∃ l3, l2 ++ [3] = l3 := ⟨_, rfl⟩
          have HX3 := lhid hl3e
          have HX3L : Hid (l3.length = l2.length + 1) := lhid (by rw [← hl3e]; simp)
          rw [hl3e] at HB4 ⊢
          clear hl3e
          go_wp2_with fail
          go_loopw [11, 6] (fun i v wr => ∃ (m : Nat) (l : Bs) (A : Option Addr) (c : Nat), i = .int .i64 (3 - m) ∧ v = .slice A l.length c ∧ m ≤ 4 ∧ Hid (l.length = l2.length + 1 + m) ∧ Hid (l = l3 ++ (b4 z).take m) ∧ Hid (Buf w.heap.size w wr (.slice A l.length c) l)) (fun i _ _ => (intOf i + 1).toNat)
          case atStart => exact ⟨0, l3, A4, c4, rfl, rfl, by omega, lhid (by rw [HX3L.out]), lhid (by simp), HB4⟩
          case round =>
            clear HB4
            obtain ⟨m, l5, A5, c5, rfl, rfl, hm, HL5L, HL5, HB5⟩ := hrel
            have hb5w := HB5.out.2.2
            have hl5 : l5.length ≤ l2.length + 1 + m := by have := HL5L.out; omega
            have hms : m = 0 ∨ m = 1 ∨ m = 2 ∨ m = 3 ∨ m = 4 := by omega
            rcases hms with rfl | rfl | rfl | rfl | rfl
            · go_wp2_with (first | (at_builtin; refine wpList_append_own _ rfl (.tmp 73) (.tmp 79) 22 rfl w.heap.size 5 i0 (.int .u8 0) 1 1 Try.underlying22 hi0 hz0 hz1 hz2 rfl (by decide) (.slice A5 l5.length c5) l5.length (byV l5) rfl (HB5.out.1.alloc _) ⟨_, 0, none⟩ 1 1 [.int .u8 (z / 16777216 % 256)] rfl rfl (cells1 _ _ _) ?g402 ?g403 ?g404 ?g405 ?_))
              case g402 => intro u hu; simp at hu; subst hu; rfl
              case g403 => unfold maxLen; omega
              case g404 => omega
              case g405 => simp; omega
              intro v' w2 hown hgrow _
              have hb2 : Buf w.heap.size w w2 v' (l5 ++ [byI z 3]) := buf_grown (buf_alloc HB5.out _) [byI z 3] (by simp) (by rw [byV_app]; simp only [byV, List.map_cons, List.map_nil]; rw [byI_nat]; rfl) hown hgrow
              obtain ⟨A6, c6, rfl⟩ := hb2.form
              have HB6 := lhid hb2
              have HX6 : Hid (l5 ++ [byI z 3] = l3 ++ (b4 z).take 1) := lhid (by rw [HL5.out]; simp [b4])
              have HX7 : Hid ((l5 ++ [byI z 3]).length = l2.length + 1 + 1) := lhid (by rw [List.length_append, HL5L.out]; rfl)
              clear hown hgrow hb2
              obtain ⟨l6, hl6e⟩ : ∃ l6, l5 ++ [byI z 3] = l6 := ⟨_, rfl⟩
              rw [hl6e] at HB6 HX6 HX7 ⊢
              clear hl6e
              go_wp2_with fail
              go_roundw
              case rel => exact ⟨1, l6, A6, c6, rfl, rfl, by omega, HX7, HX6, HB6⟩
              case measure => simp [intOf]
            · go_wp2_with (first | (at_builtin; refine wpList_append_own _ rfl (.tmp 73) (.tmp 79) 22 rfl w.heap.size 5 i0 (.int .u8 0) 1 1 Try.underlying22 hi0 hz0 hz1 hz2 rfl (by decide) (.slice A5 l5.length c5) l5.length (byV l5) rfl (HB5.out.1.alloc _) ⟨_, 0, none⟩ 1 1 [.int .u8 (z / 65536 % 256)] rfl rfl (cells1 _ _ _) ?g412 ?g413 ?g414 ?g415 ?_))
              case g412 => intro u hu; simp at hu; subst hu; rfl
              case g413 => unfold maxLen; omega
              case g414 => omega
              case g415 => simp; omega
              intro v' w2 hown hgrow _
              have hb2 : Buf w.heap.size w w2 v' (l5 ++ [byI z 2]) := buf_grown (buf_alloc HB5.out _) [byI z 2] (by simp) (by rw [byV_app]; simp only [byV, List.map_cons, List.map_nil]; rw [byI_nat]; rfl) hown hgrow
              obtain ⟨A6, c6, rfl⟩ := hb2.form
              have HB6 := lhid hb2
              have HX6 : Hid (l5 ++ [byI z 2] = l3 ++ (b4 z).take 2) := lhid (by rw [HL5.out]; simp [b4])
              have HX7 : Hid ((l5 ++ [byI z 2]).length = l2.length + 1 + 2) := lhid (by rw [List.length_append, HL5L.out]; rfl)
              clear hown hgrow hb2
              obtain ⟨l6, hl6e⟩ : ∃ l6, l5 ++ [byI z 2] = l6 := ⟨_, rfl⟩
              rw [hl6e] at HB6 HX6 HX7 ⊢
              clear hl6e
              go_wp2_with fail
              go_roundw
              case rel => exact ⟨2, l6, A6, c6, rfl, rfl, by omega, HX7, HX6, HB6⟩
              case measure => simp [intOf]
            · go_wp2_with (first | (at_builtin; refine wpList_append_own _ rfl (.tmp 73) (.tmp 79) 22 rfl w.heap.size 5 i0 (.int .u8 0) 1 1 Try.underlying22 hi0 hz0 hz1 hz2 rfl (by decide) (.slice A5 l5.length c5) l5.length (byV l5) rfl (HB5.out.1.alloc _) ⟨_, 0, none⟩ 1 1 [.int .u8 (z / 256 % 256)] rfl rfl (cells1 _ _ _) ?g422 ?g423 ?g424 ?g425 ?_))
              case g422 => intro u hu; simp at hu; subst hu; rfl
              case g423 => unfold maxLen; omega
              case g424 => omega
              case g425 => simp; omega
              intro v' w2 hown hgrow _
              have hb2 : Buf w.heap.size w w2 v' (l5 ++ [byI z 1]) := buf_grown (buf_alloc HB5.out _) [byI z 1] (by simp) (by rw [byV_app]; simp only [byV, List.map_cons, List.map_nil]; rw [byI_nat]; rfl) hown hgrow
              obtain ⟨A6, c6, rfl⟩ := hb2.form
              have HB6 := lhid hb2
              have HX6 : Hid (l5 ++ [byI z 1] = l3 ++ (b4 z).take 3) := lhid (by rw [HL5.out]; simp [b4])
              have HX7 : Hid ((l5 ++ [byI z 1]).length = l2.length + 1 + 3) := lhid (by rw [List.length_append, HL5L.out]; rfl)
              clear hown hgrow hb2
              obtain ⟨l6, hl6e⟩ : ∃ l6, l5 ++ [byI z 1] = l6 := ⟨_, rfl⟩
              rw [hl6e] at HB6 HX6 HX7 ⊢
              clear hl6e
              go_wp2_with fail
              go_roundw
              case rel => exact ⟨3, l6, A6, c6, rfl, rfl, by omega, HX7, HX6, HB6⟩
              case measure => simp [intOf]
            · go_wp2_with (first | (at_builtin; refine wpList_append_own _ rfl (.tmp 73) (.tmp 79) 22 rfl w.heap.size 5 i0 (.int .u8 0) 1 1 Try.underlying22 hi0 hz0 hz1 hz2 rfl (by decide) (.slice A5 l5.length c5) l5.length (byV l5) rfl (HB5.out.1.alloc _) ⟨_, 0, none⟩ 1 1 [.int .u8 (z % 256)] rfl rfl (cells1 _ _ _) ?g432 ?g433 ?g434 ?g435 ?_))
              case g432 => intro u hu; simp at hu; subst hu; rfl
              case g433 => unfold maxLen; omega
              case g434 => omega
              case g435 => simp; omega
              intro v' w2 hown hgrow _
              have hb2 : Buf w.heap.size w w2 v' (l5 ++ [byI z 0]) := buf_grown (buf_alloc HB5.out _) [byI z 0] (by simp) (by rw [byV_app]; simp only [byV, List.map_cons, List.map_nil]; rw [byI_nat]; simp) hown hgrow
              obtain ⟨A6, c6, rfl⟩ := hb2.form
              have HB6 := lhid hb2
              have HX6 : Hid (l5 ++ [byI z 0] = l3 ++ (b4 z).take 4) := lhid (by rw [HL5.out]; simp [b4])
              have HX7 : Hid ((l5 ++ [byI z 0]).length = l2.length + 1 + 4) := lhid (by rw [List.length_append, HL5L.out]; rfl)
              clear hown hgrow hb2
              obtain ⟨l6, hl6e⟩ : ∃ l6, l5 ++ [byI z 0] = l6 := ⟨_, rfl⟩
              rw [hl6e] at HB6 HX6 HX7 ⊢
              clear hl6e
              go_wp2_with fail
              go_roundw
              case rel => exact ⟨4, l6, A6, c6, rfl, rfl, by omega, HX7, HX6, HB6⟩
              case measure => simp [intOf]
            · have HX5 : Hid (l5 = l2 ++ [3] ++ b4 z) := lhid (by rw [HL5.out, HX3.out]; rfl)
              have hl55 : l5.length ≤ l2.length + 5 := by omega
              clear hm hl5
              go_wp2_with (first | (at_builtin; refine wpList_append_own _ rfl (.tmp 81) (.tmp 82) 22 rfl w.heap.size 5 i0 (.int .u8 0) 1 1 Try.underlying22 hi0 hz0 hz1 hz2 rfl (by decide) (.slice A5 l5.length c5) l5.length (byV l5) rfl (HB5.out.1.alloc _) ⟨_, 0, none⟩ 1 1 [.int .u8 5] rfl rfl (cells1 _ _ _) ?k2 ?k3 ?k4 ?k5 ?_))
              case k2 => intro u hu; simp at hu; subst hu; rfl
              case k3 => unfold maxLen; omega
              case k4 => omega
              case k5 => simp; omega
              intro v' w2 hown hgrow _
              have hb2 : Buf w.heap.size w w2 v' (l5 ++ [5]) := buf_grown (buf_alloc HB5.out _) [5] (by simp) (by rw [byV_app]; rfl) hown hgrow
              obtain ⟨A8, c8, rfl⟩ := hb2.form
              have HB8 := lhid hb2
              have HL58 : Hid (l5.length = l2.length + 5) := lhid (by rw [HX5.out]; simp [b4])
              have hl8 : (l5 ++ [5]).length = l5.length + 1 := by simp
              obtain ⟨l8, hl8e⟩ : ∃ l8, l5 ++ [5] = l8 := ⟨_, rfl⟩
              rw [hl8e] at HB8 hl8 ⊢
              have HX8 : Hid (l8 = l2 ++ [3] ++ b4 z ++ [5]) := lhid (by rw [← hl8e, HX5.out])
              have HX8L : Hid (l8.length = l2.length + 6) := lhid (by rw [hl8, HL58.out])
              clear hown hgrow hb2 hl8 hl8e
              go_wp2_with fail
              go_loopw [12, 6] (fun i v wr => ∃ (m : Nat) (l : Bs) (A : Option Addr) (c : Nat), i = .int .i64 (7 - m) ∧ v = .slice A l.length c ∧ m ≤ 8 ∧ Hid (l.length = l2.length + 6 + m) ∧ Hid (l = l8 ++ (b8 z).take m) ∧ Hid (Buf w.heap.size w wr (.slice A l.length c) l)) (fun i _ _ => (intOf i + 1).toNat)
              case atStart => exact ⟨0, l8, A8, c8, rfl, rfl, by omega, lhid (by rw [HX8L.out]), lhid (by simp), HB8⟩
              case round =>
                clear HB8
                obtain ⟨m, m5, E5, e5, rfl, rfl, hm, HM5L, HM5, HD5⟩ := hrel
                have hd5w := HD5.out.2.2
                have hm5 : m5.length ≤ l2.length + 6 + m := by have := HM5L.out; omega
                have hms : m = 0 ∨ m = 1 ∨ m = 2 ∨ m = 3 ∨ m = 4 ∨ m = 5 ∨ m = 6 ∨ m = 7 ∨ m = 8 := by omega
                rcases hms with rfl | rfl | rfl | rfl | rfl | rfl | rfl | rfl | rfl
                · go_wp2_with (first | (at_builtin; refine wpList_append_own _ rfl (.tmp 88) (.tmp 94) 22 rfl w.heap.size 5 i0 (.int .u8 0) 1 1 Try.underlying22 hi0 hz0 hz1 hz2 rfl (by decide) (.slice E5 m5.length e5) m5.length (byV m5) rfl (HD5.out.1.alloc _) ⟨_, 0, none⟩ 1 1 [.int .u8 (z / 72057594037927936 % 256)] rfl rfl (cells1 _ _ _) ?g802 ?g803 ?g804 ?g805 ?_))
                  case g802 => intro u hu; simp at hu; subst hu; rfl
                  case g803 => unfold maxLen; omega
                  case g804 => omega
                  case g805 => simp; omega
                  intro v' w2 hown hgrow _
                  have hb2 : Buf w.heap.size w w2 v' (m5 ++ [byI z 7]) := buf_grown (buf_alloc HD5.out _) [byI z 7] (by simp) (by rw [byV_app]; simp only [byV, List.map_cons, List.map_nil]; rw [byI_nat]; rfl) hown hgrow
                  obtain ⟨E6, e6, rfl⟩ := hb2.form
                  have HD6 := lhid hb2
                  have HY6 : Hid (m5 ++ [byI z 7] = l8 ++ (b8 z).take 1) := lhid (by rw [HM5.out]; simp [b8])
                  have HY7 : Hid ((m5 ++ [byI z 7]).length = l2.length + 6 + 1) := lhid (by rw [List.length_append, HM5L.out]; rfl)
                  clear hown hgrow hb2
                  obtain ⟨m6, hn6e⟩ : ∃ m6, m5 ++ [byI z 7] = m6 := ⟨_, rfl⟩
                  rw [hn6e] at HD6 HY6 HY7 ⊢
                  clear hn6e
                  go_wp2_with fail
                  go_roundw
                  case rel => exact ⟨1, m6, E6, e6, rfl, rfl, by omega, HY7, HY6, HD6⟩
                  case measure => simp [intOf]
                · go_wp2_with (first | (at_builtin; refine wpList_append_own _ rfl (.tmp 88) (.tmp 94) 22 rfl w.heap.size 5 i0 (.int .u8 0) 1 1 Try.underlying22 hi0 hz0 hz1 hz2 rfl (by decide) (.slice E5 m5.length e5) m5.length (byV m5) rfl (HD5.out.1.alloc _) ⟨_, 0, none⟩ 1 1 [.int .u8 (z / 281474976710656 % 256)] rfl rfl (cells1 _ _ _) ?g812 ?g813 ?g814 ?g815 ?_))
                  case g812 => intro u hu; simp at hu; subst hu; rfl
                  case g813 => unfold maxLen; omega
                  case g814 => omega
                  case g815 => simp; omega
                  intro v' w2 hown hgrow _
                  have hb2 : Buf w.heap.size w w2 v' (m5 ++ [byI z 6]) := buf_grown (buf_alloc HD5.out _) [byI z 6] (by simp) (by rw [byV_app]; simp only [byV, List.map_cons, List.map_nil]; rw [byI_nat]; rfl) hown hgrow
                  obtain ⟨E6, e6, rfl⟩ := hb2.form
                  have HD6 := lhid hb2
                  have HY6 : Hid (m5 ++ [byI z 6] = l8 ++ (b8 z).take 2) := lhid (by rw [HM5.out]; simp [b8])
                  have HY7 : Hid ((m5 ++ [byI z 6]).length = l2.length + 6 + 2) := lhid (by rw [List.length_append, HM5L.out]; rfl)
                  clear hown hgrow hb2
                  obtain ⟨m6, hn6e⟩ : ∃ m6, m5 ++ [byI z 6] = m6 := ⟨_, rfl⟩
                  rw [hn6e] at HD6 HY6 HY7 ⊢
                  clear hn6e
                  go_wp2_with fail
                  go_roundw
                  case rel => exact ⟨2, m6, E6, e6, rfl, rfl, by omega, HY7, HY6, HD6⟩
                  case measure => simp [intOf]
                · go_wp2_with (first | (at_builtin; refine wpList_append_own _ rfl (.tmp 88) (.tmp 94) 22 rfl w.heap.size 5 i0 (.int .u8 0) 1 1 Try.underlying22 hi0 hz0 hz1 hz2 rfl (by decide) (.slice E5 m5.length e5) m5.length (byV m5) rfl (HD5.out.1.alloc _) ⟨_, 0, none⟩ 1 1 [.int .u8 (z / 1099511627776 % 256)] rfl rfl (cells1 _ _ _) ?g822 ?g823 ?g824 ?g825 ?_))
                  case g822 => intro u hu; simp at hu; subst hu; rfl
                  case g823 => unfold maxLen; omega
                  case g824 => omega
                  case g825 => simp; omega
                  intro v' w2 hown hgrow _
                  have hb2 : Buf w.heap.size w w2 v' (m5 ++ [byI z 5]) := buf_grown (buf_alloc HD5.out _) [byI z 5] (by simp) (by rw [byV_app]; simp only [byV, List.map_cons, List.map_nil]; rw [byI_nat]; rfl) hown hgrow
                  obtain ⟨E6, e6, rfl⟩ := hb2.form
                  have HD6 := lhid hb2
                  have HY6 : Hid (m5 ++ [byI z 5] = l8 ++ (b8 z).take 3) := lhid (by rw [HM5.out]; simp [b8])
                  have HY7 : Hid ((m5 ++ [byI z 5]).length = l2.length + 6 + 3) := lhid (by rw [List.length_append, HM5L.out]; rfl)
                  clear hown hgrow hb2
                  obtain ⟨m6, hn6e⟩ : ∃ m6, m5 ++ [byI z 5] = m6 := ⟨_, rfl⟩
                  rw [hn6e] at HD6 HY6 HY7 ⊢
                  clear hn6e
                  go_wp2_with fail
                  go_roundw
                  case rel => exact ⟨3, m6, E6, e6, rfl, rfl, by omega, HY7, HY6, HD6⟩
                  case measure => simp [intOf]
                · go_wp2_with (first | (at_builtin; refine wpList_append_own _ rfl (.tmp 88) (.tmp 94) 22 rfl w.heap.size 5 i0 (.int .u8 0) 1 1 Try.underlying22 hi0 hz0 hz1 hz2 rfl (by decide) (.slice E5 m5.length e5) m5.length (byV m5) rfl (HD5.out.1.alloc _) ⟨_, 0, none⟩ 1 1 [.int .u8 (z / 4294967296 % 256)] rfl rfl (cells1 _ _ _) ?g832 ?g833 ?g834 ?g835 ?_))
                  case g832 => intro u hu; simp at hu; subst hu; rfl
                  case g833 => unfold maxLen; omega
                  case g834 => omega
                  case g835 => simp; omega
                  intro v' w2 hown hgrow _
                  have hb2 : Buf w.heap.size w w2 v' (m5 ++ [byI z 4]) := buf_grown (buf_alloc HD5.out _) [byI z 4] (by simp) (by rw [byV_app]; simp only [byV, List.map_cons, List.map_nil]; rw [byI_nat]; rfl) hown hgrow
                  obtain ⟨E6, e6, rfl⟩ := hb2.form
                  have HD6 := lhid hb2
                  have HY6 : Hid (m5 ++ [byI z 4] = l8 ++ (b8 z).take 4) := lhid (by rw [HM5.out]; simp [b8])
                  have HY7 : Hid ((m5 ++ [byI z 4]).length = l2.length + 6 + 4) := lhid (by rw [List.length_append, HM5L.out]; rfl)
                  clear hown hgrow hb2
                  obtain ⟨m6, hn6e⟩ : ∃ m6, m5 ++ [byI z 4] = m6 := ⟨_, rfl⟩
                  rw [hn6e] at HD6 HY6 HY7 ⊢
                  clear hn6e
                  go_wp2_with fail
                  go_roundw
                  case rel => exact ⟨4, m6, E6, e6, rfl, rfl, by omega, HY7, HY6, HD6⟩
                  case measure => simp [intOf]
                · go_wp2_with (first | (at_builtin; refine wpList_append_own _ rfl (.tmp 88) (.tmp 94) 22 rfl w.heap.size 5 i0 (.int .u8 0) 1 1 Try.underlying22 hi0 hz0 hz1 hz2 rfl (by decide) (.slice E5 m5.length e5) m5.length (byV m5) rfl (HD5.out.1.alloc _) ⟨_, 0, none⟩ 1 1 [.int .u8 (z / 16777216 % 256)] rfl rfl (cells1 _ _ _) ?g842 ?g843 ?g844 ?g845 ?_))
                  case g842 => intro u hu; simp at hu; subst hu; rfl
                  case g843 => unfold maxLen; omega
                  case g844 => omega
                  case g845 => simp; omega
                  intro v' w2 hown hgrow _
                  have hb2 : Buf w.heap.size w w2 v' (m5 ++ [byI z 3]) := buf_grown (buf_alloc HD5.out _) [byI z 3] (by simp) (by rw [byV_app]; simp only [byV, List.map_cons, List.map_nil]; rw [byI_nat]; rfl) hown hgrow
                  obtain ⟨E6, e6, rfl⟩ := hb2.form
                  have HD6 := lhid hb2
                  have HY6 : Hid (m5 ++ [byI z 3] = l8 ++ (b8 z).take 5) := lhid (by rw [HM5.out]; simp [b8])
                  have HY7 : Hid ((m5 ++ [byI z 3]).length = l2.length + 6 + 5) := lhid (by rw [List.length_append, HM5L.out]; rfl)
                  clear hown hgrow hb2
                  obtain ⟨m6, hn6e⟩ : ∃ m6, m5 ++ [byI z 3] = m6 := ⟨_, rfl⟩
                  rw [hn6e] at HD6 HY6 HY7 ⊢
                  clear hn6e
                  go_wp2_with fail
                  go_roundw
                  case rel => exact ⟨5, m6, E6, e6, rfl, rfl, by omega, HY7, HY6, HD6⟩
                  case measure => simp [intOf]
                · go_wp2_with (first | (at_builtin; refine wpList_append_own _ rfl (.tmp 88) (.tmp 94) 22 rfl w.heap.size 5 i0 (.int .u8 0) 1 1 Try.underlying22 hi0 hz0 hz1 hz2 rfl (by decide) (.slice E5 m5.length e5) m5.length (byV m5) rfl (HD5.out.1.alloc _) ⟨_, 0, none⟩ 1 1 [.int .u8 (z / 65536 % 256)] rfl rfl (cells1 _ _ _) ?g852 ?g853 ?g854 ?g855 ?_))
                  case g852 => intro u hu; simp at hu; subst hu; rfl
                  case g853 => unfold maxLen; omega
                  case g854 => omega
                  case g855 => simp; omega
                  intro v' w2 hown hgrow _
                  have hb2 : Buf w.heap.size w w2 v' (m5 ++ [byI z 2]) := buf_grown (buf_alloc HD5.out _) [byI z 2] (by simp) (by rw [byV_app]; simp only [byV, List.map_cons, List.map_nil]; rw [byI_nat]; rfl) hown hgrow
                  obtain ⟨E6, e6, rfl⟩ := hb2.form
                  have HD6 := lhid hb2
                  have HY6 : Hid (m5 ++ [byI z 2] = l8 ++ (b8 z).take 6) := lhid (by rw [HM5.out]; simp [b8])
                  have HY7 : Hid ((m5 ++ [byI z 2]).length = l2.length + 6 + 6) := lhid (by rw [List.length_append, HM5L.out]; rfl)
                  clear hown hgrow hb2
                  obtain ⟨m6, hn6e⟩ : ∃ m6, m5 ++ [byI z 2] = m6 := ⟨_, rfl⟩
                  rw [hn6e] at HD6 HY6 HY7 ⊢
                  clear hn6e
                  go_wp2_with fail
                  go_roundw
                  case rel => exact ⟨6, m6, E6, e6, rfl, rfl, by omega, HY7, HY6, HD6⟩
                  case measure => simp [intOf]
                · go_wp2_with (first | (at_builtin; refine wpList_append_own _ rfl (.tmp 88) (.tmp 94) 22 rfl w.heap.size 5 i0 (.int .u8 0) 1 1 Try.underlying22 hi0 hz0 hz1 hz2 rfl (by decide) (.slice E5 m5.length e5) m5.length (byV m5) rfl (HD5.out.1.alloc _) ⟨_, 0, none⟩ 1 1 [.int .u8 (z / 256 % 256)] rfl rfl (cells1 _ _ _) ?g862 ?g863 ?g864 ?g865 ?_))
                  case g862 => intro u hu; simp at hu; subst hu; rfl
                  case g863 => unfold maxLen; omega
                  case g864 => omega
                  case g865 => simp; omega
                  intro v' w2 hown hgrow _
                  have hb2 : Buf w.heap.size w w2 v' (m5 ++ [byI z 1]) := buf_grown (buf_alloc HD5.out _) [byI z 1] (by simp) (by rw [byV_app]; simp only [byV, List.map_cons, List.map_nil]; rw [byI_nat]; rfl) hown hgrow
                  obtain ⟨E6, e6, rfl⟩ := hb2.form
                  have HD6 := lhid hb2
                  have HY6 : Hid (m5 ++ [byI z 1] = l8 ++ (b8 z).take 7) := lhid (by rw [HM5.out]; simp [b8])
                  have HY7 : Hid ((m5 ++ [byI z 1]).length = l2.length + 6 + 7) := lhid (by rw [List.length_append, HM5L.out]; rfl)
                  clear hown hgrow hb2
                  obtain ⟨m6, hn6e⟩ : ∃ m6, m5 ++ [byI z 1] = m6 := ⟨_, rfl⟩
                  rw [hn6e] at HD6 HY6 HY7 ⊢
                  clear hn6e
                  go_wp2_with fail
                  go_roundw
                  case rel => exact ⟨7, m6, E6, e6, rfl, rfl, by omega, HY7, HY6, HD6⟩
                  case measure => simp [intOf]
                · go_wp2_with (first | (at_builtin; refine wpList_append_own _ rfl (.tmp 88) (.tmp 94) 22 rfl w.heap.size 5 i0 (.int .u8 0) 1 1 Try.underlying22 hi0 hz0 hz1 hz2 rfl (by decide) (.slice E5 m5.length e5) m5.length (byV m5) rfl (HD5.out.1.alloc _) ⟨_, 0, none⟩ 1 1 [.int .u8 (z % 256)] rfl rfl (cells1 _ _ _) ?g872 ?g873 ?g874 ?g875 ?_))
                  case g872 => intro u hu; simp at hu; subst hu; rfl
                  case g873 => unfold maxLen; omega
                  case g874 => omega
                  case g875 => simp; omega
                  intro v' w2 hown hgrow _
                  have hb2 : Buf w.heap.size w w2 v' (m5 ++ [byI z 0]) := buf_grown (buf_alloc HD5.out _) [byI z 0] (by simp) (by rw [byV_app]; simp only [byV, List.map_cons, List.map_nil]; rw [byI_nat]; simp) hown hgrow
                  obtain ⟨E6, e6, rfl⟩ := hb2.form
                  have HD6 := lhid hb2
                  have HY6 : Hid (m5 ++ [byI z 0] = l8 ++ (b8 z).take 8) := lhid (by rw [HM5.out]; simp [b8])
                  have HY7 : Hid ((m5 ++ [byI z 0]).length = l2.length + 6 + 8) := lhid (by rw [List.length_append, HM5L.out]; rfl)
                  clear hown hgrow hb2
                  obtain ⟨m6, hn6e⟩ : ∃ m6, m5 ++ [byI z 0] = m6 := ⟨_, rfl⟩
                  rw [hn6e] at HD6 HY6 HY7 ⊢
                  clear hn6e
                  go_wp2_with fail
                  go_roundw
                  case rel => exact ⟨8, m6, E6, e6, rfl, rfl, by omega, HY7, HY6, HD6⟩
                  case measure => simp [intOf]
                · have HX9 : Hid (m5 = laidN T Z (k2 + 1)) := lhid (by
                    rw [laidN_succ T Z k2 z HZZ.out, ← HL2.out, HM5.out, HX8.out]
                    simp [numP, b8])
                  clear hm
                  go_wp2_with fail
                  go_roundw
                  case rel => exact ⟨k2 + 1, m5, E5, e5, by go_num, rfl, by omega, by omega, HX9, HD5⟩
                  case measure => simp [intOf]; omega
          -- outer
        · have hke2 : k2 = Z.length := by omega
          subst hke2
          have hll3 : l2.length ≤ 1100000 := by omega
          have hbw := HBF2.out.2.2
          clear hll2
          go_wp2_with (first | (at_builtin; refine Lib.wpList_append_own_string _ rfl (.tmp 98) (.const (.string ⟨#[114, 101, 115, 116]⟩)) 22 9 rfl w.heap.size 5 i0 Try.underlying22 Try.underlying9 hi0 hz0 hz1 hz2 (.slice A2 l2.length c2) l2.length (byV l2) rfl HBF2.out.1 ⟨#[114, 101, 115, 116]⟩ rfl ?r3 ?r4 ?r5 ?_))
          case r3 => show l2.length + 4 ≤ _; unfold maxLen; omega
          case r4 => show l2.length + 4 ≤ _; omega
          case r5 => omega
          intro v' w2 hown hgrow _
          have hb2 : Buf w.heap.size w w2 v' (l2 ++ [114, 101, 115, 116]) := buf_grown HBF2.out [114, 101, 115, 116] (by simp) (by rw [byV_app]; rfl) hown hgrow
          have HRD2 := lhid (buf_rd hb2)
          have HB2 := lhid hb2.2.1
          have hw2 := hb2.2.2
          clear hown hgrow hb2
          obtain ⟨l4, hl4⟩ : ∃ l4, l2 ++ [114, 101, 115, 116] = l4 := ⟨_, rfl⟩
          rw [hl4] at HRD2
          obtain ⟨cl, hcl⟩ : ∃ cl, allC T Z = cl := ⟨_, rfl⟩
          have hpool := texts_pool T Z [114, 101, 115, 116] (by omega) HSMA.out HZB.out
          rw [← HL2.out, hl4, hcl] at hpool
          have HPX := lhid hpool.1
          have HPL := lhid hpool.2
          have hlen : cl.length = T.length + 2 * Z.length + 1 := by rw [← hcl, allC_len]
          have HCT : Hid (∀ (i : Nat) (s : ByteArray), T[i]? = some s → cl[1 + i]? = some (txtC s)) := lhid (by rw [← hcl]; exact allC_text T Z)
          have HCN : Hid (∀ (i j : Nat) (z : Int), Z[i]? = some z → j < 2 → cl[1 + T.length + 2 * i + j]? = (numC z)[j]?) := lhid (by rw [← hcl]; exact allC_num T Z)
          have HC0 : Hid (cl[0]? = some Con.zero) := lhid (by rw [← hcl]; rfl)
          clear hpool hl4 hcl
          go_wp2_with fail
          with_reducible refine (from_any _ l4 _ HRD2.out).mono ?_
          rintro e w3 ⟨rfl, rfl⟩
          go_wp2_with fail
          with_reducible refine (read_ok _ (l4, false) cl _ (lhid (rdr_new w2 l4)) HPX HPL).mono ?_
          rintro e w3 ⟨⟨g, rfl, hg, hrows⟩, hr, ho⟩
          have HB3 := lhid ((HB2.out.alloc hw2 _).trans (ho.below hw2 (by simp; omega)))
          obtain ⟨a0, a1, a2, a3, a4⟩ := con_at hrows HC0.out
          have e0 : w3.cell? ⟨g, 0, none⟩ = some (.int .i64 0) := by simpa [Con.zero, tx_nil] using a0
          have e1 : w3.cell? ⟨g, 1, none⟩ = some (.int .i64 0) := by simpa [Con.zero, tx_nil] using a1
          have e2 : w3.cell? ⟨g, 2, none⟩ = some (.string ⟨#[]⟩) := by simpa [Con.zero, tx_nil] using a2
          have e3 : w3.cell? ⟨g, 3, none⟩ = some (.string ⟨#[]⟩) := by simpa [Con.zero, tx_nil] using a3
          have e4 : w3.cell? ⟨g, 4, none⟩ = some (.string ⟨#[]⟩) := by simpa [Con.zero, tx_nil] using a4
          have HROWS := lhid hrows
          have t1 : ((cl.length : Int) != ↑T.length + 2 * ↑Z.length + 1) = false := by rw [bne_eq_false_iff_eq]; omega
          have t2 : ((cl.length : Int) == ↑T.length + 2 * ↑Z.length + 1) = true := by rw [beq_iff_eq]; omega
          have h0l : 0 < cl.length := by omega
          have HLEN := lhid hlen
          clear hr ho hrows a0 a1 a2 a3 a4 hg hlen
          go_wp2_with fail
          clear e0 e1 e2 e3 e4 t1 t2 h0l
          go_loop [121] (fun i => ∃ k : Nat, i = .int .i64 k ∧ k ≤ T.length) (fun i => T.length - (intOf i).toNat)
          case atStart => exact ⟨0, rfl, Nat.zero_le _⟩
          case round =>
            obtain ⟨k, rfl, hk⟩ := hrel
            by_cases hlt5 : k < T.length
            · obtain ⟨s, hs⟩ : ∃ s, T[k]? = some s := ⟨_, List.getElem?_eq_getElem hlt5⟩
              obtain ⟨b, o, rfl, hbl, hcw⟩ := rdT_at HT.out hs
              have hcell := (HB3.out.cell (p := ⟨b, o + k, none⟩) hbl).trans hcw
              obtain ⟨a0, a1, a2, a3, a4⟩ := con_at HROWS.out (HCT.out k s hs)
              have e2 : w3.cell? ⟨g, (1 + k) * 5 + 2, none⟩ = some (.string s) := by rw [a2]; simp only [txtC]; rw [tx_self]
              have e3 : w3.cell? ⟨g, (1 + k) * 5 + 3, none⟩ = some (.string ⟨#[]⟩) := a3
              have e4 : w3.cell? ⟨g, (1 + k) * 5 + 4, none⟩ = some (.string ⟨#[]⟩) := a4
              have hi1 : 1 + k < cl.length := by have := HLEN.out; omega
              clear hcw hs a2 a3 a4
              go_wp2_with fail
              go_round
              case rel => exact ⟨k + 1, by go_num, by omega⟩
              case measure => simp [intOf]; omega
            · have hke5 : k = T.length := by omega
              subst hke5
              go_wp2_with fail
              go_loop [137] (fun i => ∃ k : Nat, i = .int .i64 k ∧ k ≤ Z.length) (fun i => Z.length - (intOf i).toNat)
              case atStart => exact ⟨0, rfl, Nat.zero_le _⟩
              case round =>
                obtain ⟨k, rfl, hk6⟩ := hrel
                by_cases hlt6 : k < Z.length
                · obtain ⟨z, hz⟩ : ∃ z, Z[k]? = some z := ⟨_, List.getElem?_eq_getElem hlt6⟩
                  obtain ⟨b, o, rfl, hbl, hcw⟩ := rdI_at HZ.out hz
                  have hcell := (HB3.out.cell (p := ⟨b, o + k, none⟩) hbl).trans hcw
                  have hq1 : cl[1 + T.length + 2 * k]? = some ⟨3, wrap64 (wrap32 z), [], [], []⟩ := HCN.out k 0 z hz (by omega)
                  have hq2 : cl[1 + T.length + 2 * k + 1]? = some ⟨5, z, [], [], []⟩ := HCN.out k 1 z hz (by omega)
                  obtain ⟨a0, a1, a2, a3, a4⟩ := con_at HROWS.out hq1
                  obtain ⟨d0, d1, d2, d3, d4⟩ := con_at HROWS.out hq2
                  rw [tx_nil] at a2 a3 a4 d2 d3 d4
                  clear hq1 hq2
                  have hi1 : 1 + T.length + 2 * k < cl.length := by have := HLEN.out; omega
                  have hi2 : 1 + T.length + 2 * k + 1 < cl.length := by have := HLEN.out; omega
                  clear hcw hz
                  go_wp2_with fail
                  go_round
                  case rel => exact ⟨k + 1, by go_num, by omega⟩
                  case measure => simp [intOf]; omega
                · go_wp2_with fail
                  go_ret
                  exact ⟨rfl, HB3.out⟩
end Go.Proofs.Ytogbieehpppnaaa
