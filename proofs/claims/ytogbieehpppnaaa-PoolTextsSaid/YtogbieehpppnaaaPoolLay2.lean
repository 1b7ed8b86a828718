/- The pool that PoolTexts lays: what it comes to. No program in this text. -/
import Derived.Test.YtogbieehpppnaaaPoolLay
namespace Go.Proofs.Ytogbieehpppnaaa
open Go Go.RowKit
set_option linter.unusedVariables false

def headT (T : List ByteArray) (Z : List Int) : Bs := [hiB (T.length + 2 * Z.length + 1), loB (T.length + 2 * Z.length + 1)]
def txtP (s : ByteArray) : Bs × Ent := (1 :: hiB s.size :: loB s.size :: s.data.toList, ⟨1, 0, s.data.toList, 0, 0, 0⟩)
def laidT (T : List ByteArray) (Z : List Int) (k : Nat) : Bs := headT T Z ++ ((T.take k).map fun s => (txtP s).1).flatten
theorem laidT_succ (T : List ByteArray) (Z : List Int) (k : Nat) (s : ByteArray) (h : T[k]? = some s) : laidT T Z (k + 1) = laidT T Z k ++ (1 :: hiB s.size :: loB s.size :: s.data.toList) := by
  obtain ⟨h1, h2⟩ := List.getElem?_eq_some_iff.1 h
  unfold laidT
  rw [List.take_succ_eq_append_getElem h1, h2]
  simp [txtP]
def numP (z : Int) : Bs := 3 :: b4 z ++ 5 :: b8 z
def laidN (T : List ByteArray) (Z : List Int) (k : Nat) : Bs := laidT T Z T.length ++ ((Z.take k).map numP).flatten
theorem laidN_succ (T : List ByteArray) (Z : List Int) (k : Nat) (z : Int) (h : Z[k]? = some z) : laidN T Z (k + 1) = laidN T Z k ++ numP z := by
  obtain ⟨h1, h2⟩ := List.getElem?_eq_some_iff.1 h
  unfold laidN
  rw [List.take_succ_eq_append_getElem h1, h2]
  simp
def numPs (z : Int) : List (Bs × Ent) := [(3 :: b4 z, ⟨3, wrap64 (wrap32 z), [], 0, 0, 0⟩), (5 :: b8 z, ⟨5, z, [], 0, 0, 0⟩)]
def allP (T : List ByteArray) (Z : List Int) : List (Bs × Ent) := T.map txtP ++ (Z.map numPs).flatten
def numC (z : Int) : List Con := [⟨3, wrap64 (wrap32 z), [], [], []⟩, ⟨5, z, [], [], []⟩]
def txtC (s : ByteArray) : Con := ⟨1, 0, s.data.toList, [], []⟩
def allC (T : List ByteArray) (Z : List Int) : List Con := Con.zero :: (T.map txtC ++ (Z.map numC).flatten)
theorem two_len {α β : Type} (f : α → List β) (h : ∀ x, (f x).length = 2) : ∀ l : List α, ((l.map f).flatten).length = 2 * l.length
  | [] => rfl
  | x :: l => by
    rw [List.map_cons, List.flatten_cons, List.length_append, h, two_len f h l, List.length_cons]
    omega
theorem two_at {α β : Type} (f : α → List β) (h : ∀ x, (f x).length = 2) : ∀ (l : List α) (i j : Nat) (x : α), l[i]? = some x → j < 2 → ((l.map f).flatten)[2 * i + j]? = (f x)[j]?
  | [], i, j, x, hx, _ => by simp at hx
  | y :: l, 0, j, x, hx, hj => by
    simp at hx
    subst hx
    rw [List.map_cons, List.flatten_cons, List.getElem?_append_left (by rw [h]; omega)]
    simp
  | y :: l, i + 1, j, x, hx, hj => by
    rw [List.map_cons, List.flatten_cons, List.getElem?_append_right (by rw [h]; omega), h, show 2 * (i + 1) + j - 2 = 2 * i + j by omega]
    exact two_at f h l i j x (by simpa using hx) hj
theorem allP_len (T : List ByteArray) (Z : List Int) : (allP T Z).length = T.length + 2 * Z.length := by
  unfold allP
  rw [List.length_append, List.length_map, two_len numPs (fun _ => rfl)]
theorem allC_len (T : List ByteArray) (Z : List Int) : (allC T Z).length = T.length + 2 * Z.length + 1 := by
  unfold allC
  rw [List.length_cons, List.length_append, List.length_map, two_len numC (fun _ => rfl)]
theorem nums_flat : ∀ Z : List Int, (((Z.map numPs).flatten).map (·.1)).flatten = (Z.map numP).flatten
  | [] => rfl
  | z :: Z => by
    have ih := nums_flat Z
    simp only [List.map_cons, List.flatten_cons, List.map_append, List.flatten_append, ih]
    simp [numPs, numP]
theorem nums_told : ∀ Z : List Int, ((Z.map numPs).flatten).map (fun p => told p.2) = (Z.map numC).flatten
  | [] => rfl
  | z :: Z => by
    have ih := nums_told Z
    simp only [List.map_cons, List.flatten_cons, List.map_append, ih]
    rfl
theorem laid_all (T : List ByteArray) (Z : List Int) : laidN T Z Z.length = hiB ((allP T Z).length + 1) :: loB ((allP T Z).length + 1) :: ((allP T Z).map (·.1)).flatten := by
  unfold laidN laidT
  rw [List.take_length, List.take_length, allP_len]
  unfold allP headT
  rw [List.map_append, List.flatten_append, nums_flat]
  simp [Function.comp_def]
theorem texts_pool (T : List ByteArray) (Z : List Int) (r : Bs) (hn : T.length + 2 * Z.length + 1 ≤ 1000) (hT : ∀ (j : Nat) s, T[j]? = some s → s.size ≤ 1000) (hZ : ∀ z ∈ Z, -9223372036854775808 ≤ z ∧ z ≤ 9223372036854775807) :
    poolX (laidN T Z Z.length ++ r, false) = 0 ∧ poolL (laidN T Z Z.length ++ r, false) = allC T Z := by
  have h := pool_laid (allP T Z) r (by rw [allP_len]; exact hn) (by
    intro p hp
    unfold allP at hp
    rcases List.mem_append.1 hp with hp | hp
    · obtain ⟨s, hs, rfl⟩ := List.mem_map.1 hp
      obtain ⟨j, hj⟩ := List.mem_iff_getElem?.1 hs
      have hsz := hT j s hj
      have hl : s.data.toList.length = s.size := by simp
      have := piece_text s.data.toList (by omega)
      rw [hl] at this
      exact this
    · obtain ⟨q, hq, hpq⟩ := List.mem_flatten.1 hp
      obtain ⟨z, hz, rfl⟩ := List.mem_map.1 hq
      simp only [numPs, List.mem_cons, List.not_mem_nil, or_false] at hpq
      rcases hpq with rfl | rfl
      · exact piece_int z
      · exact piece_long z (hZ z hz)) (by
    intro p hp
    unfold allP at hp
    rcases List.mem_append.1 hp with hp | hp
    · obtain ⟨s, hs, rfl⟩ := List.mem_map.1 hp
      exact (by decide : (1 : Nat) < 7)
    · obtain ⟨q, hq, hpq⟩ := List.mem_flatten.1 hp
      obtain ⟨z, hz, rfl⟩ := List.mem_map.1 hq
      simp only [numPs, List.mem_cons, List.not_mem_nil, or_false] at hpq
      rcases hpq with rfl | rfl
      · exact (by decide : (3 : Nat) < 7)
      · exact (by decide : (5 : Nat) < 7))
  rw [laid_all]
  refine ⟨h.1, h.2.trans ?_⟩
  unfold allC
  rw [← nums_told]
  unfold allP
  rw [List.map_append, List.map_map]
  rfl
theorem allC_text (T : List ByteArray) (Z : List Int) (i : Nat) (s : ByteArray) (h : T[i]? = some s) : (allC T Z)[1 + i]? = some (txtC s) := by
  unfold allC
  rw [Nat.add_comm, List.getElem?_cons_succ, List.getElem?_append_left (by have := (List.getElem?_eq_some_iff.1 h).1; simpa using this), List.getElem?_map, h]
  rfl
theorem allC_num (T : List ByteArray) (Z : List Int) (i j : Nat) (z : Int) (h : Z[i]? = some z) (hj : j < 2) : (allC T Z)[1 + T.length + 2 * i + j]? = (numC z)[j]? := by
  unfold allC
  rw [show 1 + T.length + 2 * i + j = (T.length + (2 * i + j)) + 1 by omega, List.getElem?_cons_succ, List.getElem?_append_right (by simp), List.length_map, Nat.add_sub_cancel_left]
  exact two_at numC (fun _ => rfl) Z i j z h hj
end Go.Proofs.Ytogbieehpppnaaa
