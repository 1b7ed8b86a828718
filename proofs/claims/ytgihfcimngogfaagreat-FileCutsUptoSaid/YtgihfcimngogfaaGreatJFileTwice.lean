/- Contract of anyTwice: keys of two texts in a map of the call's own. -/
import Derived.Test.YtgihfcimngogfaaGreatM12
import Derived.WideKeyEntry
import Derived.Carry
namespace Go.Proofs.YtgihfcimngogfaaGreat
open Go.RowKit Go
set_option linter.unusedVariables false
abbrev keyV (k : Bs × Bs) : Value := .agg #[.string (tx k.1), .string (tx k.2)]
theorem tx_toList (l : Bs) : (tx l).toList = l := by rw [Lib.toList_data, tx_list]
theorem key_equal (a b : Bs × Bs) (w : World) : (Op.equal 154 (keyV a) (keyV b)).run Tryz.prog w = .ok (decide (a = b)) w := by
 obtain ⟨a1, a2⟩ := a
 obtain ⟨b1, b2⟩ := b
 show (Op.equalIn 10000 _ (.agg _) (.agg _)).run _ _ = _
 go_simp
 simp only [tx_toList]
 by_cases h1 : a1 = b1 <;> by_cases h2 : a2 = b2 <;> simp [h1, h2]
theorem key_check (e : Bool) (a : Bs × Bs) (w : World) : (Instr.checkKey e 10000 154 (keyV a)).run Tryz.prog w = .ok () w := by kernel_rfl
abbrev Ety := (Bs × Bs) × Value × Nat
def etyV (x : Ety) : MapEntry := ⟨keyV x.1, x.2.1, x.2.2⟩
def findG (k : Bs × Bs) : List Ety → Nat → Option (Nat × Value)
 | [], _ => none
 | x :: r, i => if x.1 = k then some (i, x.2.1) else findG k r (i + 1)
theorem find_run (k : Bs × Bs) (w : World) : ∀ (l : List Ety) (i : Nat), (Instr.findAsking 154 (keyV k) (l.map etyV) i).run Tryz.prog w = .ok (findG k l i) w
 | [], _ => rfl
 | x :: r, i => by
  have h := key_equal k x.1 w
  show (Instr.findAsking 154 (keyV k) (etyV x :: r.map etyV) i).run Tryz.prog w = _
  rw [Instr.findAsking]
  simp only [Sem.run_bind]
  rw [show (etyV x).key = keyV x.1 from rfl, h]
  simp only [Result.andThen_ok]
  by_cases hk : k = x.1
  ·subst hk
   simp [findG]
   rfl
  ·have hk2 : ¬ x.1 = k := fun e => hk e.symm
   rw [decide_eq_false hk]
   simp only [Bool.false_eq_true, if_false, findG, hk2]
   exact find_run k w r (i + 1)
theorem findKey_run (k : Bs × Bs) (w : World) (l : List Ety) : (Instr.findKey 154 (keyV k) (l.map etyV)).run Tryz.prog w = .ok (findG k l 0) w := by
 have hs := Tryz.underlying154
 unfold Instr.findKey
 simp only [Sem.run_bind, run_underlying hs, Result.andThen_ok]
 cases l with
 | nil => rfl
 | cons x r =>
  have : ∀ f, Instr.findNow (.struct f) (keyV k) ((x :: r).map etyV) 0 = none := fun _ => rfl
  rw [this]
  exact find_run k w (x :: r) 0
def setB (w : World) (b : Nat) (o : Obj) : World := { w with heap := w.heap.setIfInBounds b o }
theorem lookup_run (k : Bs × Bs) (w : World) (B clock : Nat) (l : List Ety) (h : w.heap[B]? = some (.map (l.map etyV).toArray clock)) :
  (Instr.lookup 152 (.map (some B)) (keyV k) false).run Tryz.prog w = .ok (match findG k l 0 with | some (_, v) => v | none => .int .i64 0) w := by
 have ht : Tryz.prog.underlying 152 = some (.map 154 3) := by kernel_rfl
 have hz : ∀ u : World, (zeroValue 3).run Tryz.prog u = .ok (.int .i64 0) u := fun u => by kernel_rfl
 have hf := findKey_run k w l
 unfold Instr.lookup
 simp only [Sem.run_bind, run_underlying ht, Result.andThen_ok, MapKept.run_getObj_map h, Sem.run_pure, key_check, hf]
 cases findG k l 0 with
 | none => simp [hz]
 | some p => simp
theorem mapEntry_new (k : Bs × Bs) (w : World) (B clock : Nat) (l : List Ety) (h : w.heap[B]? = some (.map (l.map etyV).toArray clock)) (hf0 : findG k l 0 = none) :
  (Instr.mapEntry 152 (.map (some B)) (keyV k)).run Tryz.prog w = .ok (.tuple #[.int .i64 0, .int .i64 clock]) (setB w B (.map ((l ++ [((k, Value.int .i64 0, clock) : Ety)]).map etyV).toArray (clock + 1))) := by
 have ht : Tryz.prog.underlying 152 = some (.map 154 3) := by kernel_rfl
 have hz : ∀ u : World, (zeroValue 3).run Tryz.prog u = .ok (.int .i64 0) u := fun u => by kernel_rfl
 have hf := findKey_run k w l
 rw [hf0] at hf
 unfold Instr.mapEntry
 simp only [Sem.run_bind, run_underlying ht, Result.andThen_ok, MapKept.run_getObj_map h, key_check, hf, hz, MapKept.run_setObj_map _ h, Sem.run_pure]
 simp [etyV, goInt, setB]
theorem modify_same {l : List MapEntry} {j : Nat} {e : MapEntry} (h : l[j]? = some e) (f : MapEntry → MapEntry) (hf : f e = e) : l.toArray.modify j f = l.toArray := by
 apply Array.ext_getElem?
 intro i
 rw [Array.getElem?_modify]
 split
 ·rename_i e'
  subst e'
  simp [h, hf]
 ·rfl
theorem bytes_self (a : ByteArray) : (a == a) = true := by rw [beq_toListBytes]; simp
theorem mapEntry_old (k : Bs × Bs) (w : World) (B clock : Nat) (l : List Ety) (h : w.heap[B]? = some (.map (l.map etyV).toArray clock)) {j b : Nat} {v : Value} (hf0 : findG k l 0 = some (j, v)) (hj : l[j]? = some (k, v, b)) :
  (Instr.mapEntry 152 (.map (some B)) (keyV k)).run Tryz.prog w = .ok (.tuple #[v, .int .i64 b]) (setB w B (.map (l.map etyV).toArray clock)) := by
 have ht : Tryz.prog.underlying 152 = some (.map 154 3) := by kernel_rfl
 have hf := findKey_run k w l
 rw [hf0] at hf
 have hje : ((l.map etyV).toArray[j]?) = some (etyV (k, v, b)) := by simp [hj]
 have hst : (Instr.keyThatStays (keyV k) (keyV k)).run Tryz.prog w = .ok (keyV k) w := by
  have : Instr.sameBits 10000 (keyV k) (keyV k) = true := by
   show (_ && _) = true
   simp [Instr.sameBits, bytes_self]
  unfold Instr.keyThatStays
  rw [this]
  rfl
 have hmod : ((l.map etyV).toArray.modify j fun e => { e with key := keyV k }) = (l.map etyV).toArray := modify_same (e := etyV (k, v, b)) (by simp [hj]) _ rfl
 unfold Instr.mapEntry
 simp only [Sem.run_bind, run_underlying ht, Result.andThen_ok, MapKept.run_getObj_map h, key_check, hf, hje, Option.map_some, Option.getD_some]
 rw [show (etyV (k, v, b)).key = keyV k from rfl, hst]
 simp only [Result.andThen_ok, MapKept.run_setObj_map _ h, Sem.run_pure, hmod, goInt]
 rfl
theorem findIdx_last (l : List MapEntry) (n : Nat) (e : MapEntry) (hl : ∀ x, x ∈ l → x.born ≠ n) (he : e.born = n) : (l ++ [e]).findIdx? (fun x => ((x.born : Nat) : Int) == (n : Int)) = some l.length := by
 induction l with
 | nil => simp [List.findIdx?_cons, he]
 | cons a r ih =>
  have h1 : ((a.born : Int) == (n : Int)) = false := by
   have := hl a List.mem_cons_self
   rw [beq_eq_false_iff_ne]
   omega
  rw [List.cons_append, List.findIdx?_cons, h1, ih (fun x hx => hl x (List.mem_cons_of_mem _ hx))]
  simp
theorem entryStore_run (w : World) (B clock st j : Nat) (l : List MapEntry) (v : Value) (h : w.heap[B]? = some (.map l.toArray clock)) (hj : l.findIdx? (fun x => ((x.born : Nat) : Int) == (st : Int)) = some j) :
  (Instr.entryStore 152 (.map (some B)) (.int .i64 st) v).run Tryz.prog w = .ok () (setB w B (.map (l.toArray.modify j fun e => { e with val := v }) clock)) := by
 have hj2 : l.toArray.findIdx? (fun x => ((x.born : Nat) : Int) == (st : Int)) = some j := by simpa using hj
 unfold Instr.entryStore
 simp only [Sem.run_bind, Result.andThen_ok, MapKept.run_getObj_map h, asInt, asIntOf, Sem.run_pure, hj2, MapKept.run_setObj_map _ h]
 rfl
def ent1 : List (Bs × Bs) → Nat → List Ety
 | [], _ => []
 | a :: r, i => (a, .int .i64 1, i) :: ent1 r (i + 1)
theorem ent1_snoc (a : Bs × Bs) : ∀ (l : List (Bs × Bs)) (i : Nat), ent1 (l ++ [a]) i = ent1 l i ++ [(a, .int .i64 1, i + l.length)]
 | [], i => rfl
 | b :: r, i => by
  rw [List.cons_append, ent1, ent1, ent1_snoc a r (i + 1), List.cons_append, List.length_cons, show i + 1 + r.length = i + (r.length + 1) by omega]
theorem ent1_born : ∀ (l : List (Bs × Bs)) (i : Nat) (x : Ety), x ∈ ent1 l i → i ≤ x.2.2 ∧ x.2.2 < i + l.length
 | [], _, _, h => by simp [ent1] at h
 | b :: r, i, x, h => by
  rw [ent1] at h
  rcases List.mem_cons.1 h with rfl | h
  ·simp
  ·have := ent1_born r (i + 1) x h
   simp
   omega
theorem ent1_len : ∀ (l : List (Bs × Bs)) (i : Nat), (ent1 l i).length = l.length
 | [], _ => rfl
 | b :: r, i => by rw [ent1, List.length_cons, ent1_len r (i + 1), List.length_cons]
theorem find_no (k : Bs × Bs) : ∀ (l : List (Bs × Bs)) (b i : Nat), k ∉ l → findG k (ent1 l b) i = none
 | [], _, _, _ => rfl
 | a :: r, b, i, h => by
  rw [ent1, findG, if_neg (fun e => h (by rw [← e]; exact List.mem_cons_self))]
  exact find_no k r (b + 1) (i + 1) (fun hm => h (List.mem_cons_of_mem _ hm))
theorem find_yes (k : Bs × Bs) : ∀ (l : List (Bs × Bs)) (b i : Nat), k ∈ l → ∃ j, findG k (ent1 l b) i = some (i + j, .int .i64 1) ∧ (ent1 l b)[j]? = some (k, .int .i64 1, b + j)
 | [], _, _, h => by simp at h
 | a :: r, b, i, h => by
  by_cases e : a = k
  ·subst e
   exact ⟨0, by rw [ent1, findG, if_pos rfl]; rfl, by rw [ent1]; rfl⟩
  ·have hr : k ∈ r := by
    rcases List.mem_cons.1 h with h | h
    ·exact absurd h.symm e
    ·exact h
   obtain ⟨j, h1, h2⟩ := find_yes k r (b + 1) (i + 1) hr
   refine ⟨j + 1, ?_, ?_⟩
   ·rw [ent1, findG, if_neg e, h1, show i + 1 + j = i + (j + 1) by omega]
   ·rw [ent1, List.getElem?_cons_succ, h2, show b + 1 + j = b + (j + 1) by omega]
theorem find_last (k : Bs × Bs) (v : Value) (n : Nat) : ∀ (l : List Ety) (i : Nat), findG k l i = none → findG k (l ++ [(k, v, n)]) i = some (i + l.length, v)
 | [], i, _ => by rw [List.nil_append, findG, if_pos rfl]; rfl
 | a :: r, i, h => by
  rw [findG] at h
  split at h
  ·cases h
  ·rename_i hne
   rw [List.cons_append, findG, if_neg hne, find_last k v n r (i + 1) h, List.length_cons, show i + 1 + r.length = i + (r.length + 1) by omega]
theorem twiceB_no {l : List (Bs × Bs)} (h : l.Nodup) : twiceB l = false := by
 induction l with
 | nil => rfl
 | cons a r ih =>
  rw [List.nodup_cons] at h
  rw [twiceB, ih h.2]
  simpa using h.1
theorem twiceB_yes {l : List (Bs × Bs)} (h : ¬ l.Nodup) : twiceB l = true := by
 induction l with
 | nil => exact absurd List.nodup_nil h
 | cons a r ih =>
  rw [twiceB]
  by_cases ha : a ∈ r
  ·simp [ha]
  ·have : ¬ r.Nodup := fun hr => h (List.nodup_cons.2 ⟨ha, hr⟩)
   rw [ih this]
   simp
theorem nodup_next {l : List (Bs × Bs)} {i : Nat} {a : Bs × Bs} (ha : l[i]? = some a) (h : (l.take i).Nodup) : (a ∈ l.take i → ¬ l.Nodup) ∧ (a ∉ l.take i → (l.take (i + 1)).Nodup) := by
 have ht := take_snoc l i a ha
 refine ⟨fun hm hl => ?_, fun hm => ?_⟩
 ·have h2 : (l.take (i + 1)).Nodup := hl.sublist (List.take_sublist _ _)
  rw [ht, List.nodup_append] at h2
  exact h2.2.2 a hm a (by simp) rfl
 ·rw [ht, List.nodup_append]
  refine ⟨h, by simp, fun x hx y hy e => ?_⟩
  simp at hy
  subst hy
  subst e
  exact hm hx
theorem setB_at (w : World) (b : Nat) (o o' : Obj) (h : w.heap[b]? = some o') : (setB w b o).heap[b]? = some o := by
 have := heap_lt h
 simp [setB, this]
theorem setB_other (w : World) (b : Nat) (o : Obj) (k : Nat) (h : k ≠ b) : (setB w b o).heap[k]? = w.heap[k]? := by
 simp [setB, Ne.symm h]
theorem Below.setB {B b : Nat} {a w : World} (h : Below B a w) (hb : B ≤ b) (o : Obj) : Below B a (setB w b o) :=
 ⟨h.os, h.tape, h.output, by have := h.size; simpa [Go.Proofs.YtgihfcimngogfaaGreat.setB] using this, fun k hk => by rw [setB_other _ _ _ _ (by omega)]; exact h.block k hk⟩
theorem findG_set (a : Bs × Bs) (v v2 : Value) (n : Nat) : ∀ (l : List Ety) (i j : Nat), findG a l i = some (i + j, v) → findG a (l.set j (a, v2, n)) i = some (i + j, v2)
 | [], _, _, h => by simp [findG] at h
 | x :: r, i, 0, h => by
  rw [List.set_cons_zero, findG, if_pos rfl]
  rfl
 | x :: r, i, j + 1, h => by
  rw [findG] at h
  split at h
  ·injection h with h
   injection h with h1 _
   omega
  ·rename_i hne
   rw [List.set_cons_succ, findG, if_neg hne]
   rw [show i + (j + 1) = i + 1 + j by omega] at h ⊢
   exact findG_set a v v2 n r (i + 1) j h
theorem map_modify (l : List Ety) (j : Nat) (a : Bs × Bs) (v v2 : Value) (n : Nat) (h : l[j]? = some (a, v, n)) : (l.map etyV).toArray.modify j (fun e => { e with val := v2 }) = ((l.set j (a, v2, n)).map etyV).toArray := by
 apply Array.ext_getElem?
 intro i
 rw [Array.getElem?_modify]
 simp only [List.getElem?_toArray, List.getElem?_map, List.getElem?_set]
 by_cases e : j = i
 ·subst e
  have := (List.getElem?_eq_some_iff.1 h).1
  have he : l[j] = (a, v, n) := by rw [List.getElem?_eq_getElem this] at h; simpa using h
  simp [this, etyV, he]
 ·simp [e]
theorem findIdx_ety : ∀ (l : List (Bs × Bs)) (b j : Nat), j < l.length → ((ent1 l b).map etyV).findIdx? (fun x => ((x.born : Nat) : Int) == ((b + j : Nat) : Int)) = some j
 | [], _, _, h => by simp at h
 | a :: r, b, 0, _ => by rw [ent1, List.map_cons, List.findIdx?_cons]; simp [etyV]
 | a :: r, b, j + 1, h => by
  rw [ent1, List.map_cons, List.findIdx?_cons]
  have h1 : (((etyV (a, .int .i64 1, b)).born : Int) == ((b + (j + 1) : Nat) : Int)) = false := by
   rw [beq_eq_false_iff_ne]
   simp [etyV]
   omega
  rw [h1]
  have := findIdx_ety r (b + 1) j (by simpa using h)
  rw [show b + 1 + j = b + (j + 1) by omega] at this
  rw [this]
  rfl
set_option maxHeartbeats 16000000 in
set_option maxRecDepth 100000 in
theorem anyTwice_any (ks : List (Bs × Bs)) (v : Value) (w : World) (h : Hid (KeysO w v ks)) (hn : ks.length ≤ 60) :
  Calls Tryz.prog 60 #[v] w fun e w' => e = .returned (.bool (twiceB ks)) ∧ Below w.heap.size w w' := by
 have hmm := @run_makeMap Tryz.prog
 obtain ⟨A0, c0, rfl⟩ := slO_shape h.out
 obtain ⟨B, hB⟩ : ∃ B, w.heap.size = B := ⟨_, rfl⟩
 have HB := lhid hB
 go_enter Tryz.func60, Tryz.ntmps60
 go_wp2_with fail
 clear hB
 go_loopw [9] (fun i wr => ∃ (k : Nat), i = .int .i64 k ∧ k ≤ ks.length ∧ Hid (wr.heap[B]? = some (.map ((ent1 (ks.take k) 0).map etyV).toArray k)) ∧ Hid ((ks.take k).Nodup) ∧ Hid (Below B w wr)) (fun i _ => ks.length - (intOf i).toNat)
 case atStart => exact ⟨0, rfl, Nat.zero_le _, lhid (by rw [← HB.out]; exact heap_alloc_new w _), lhid List.nodup_nil, lhid ((Below.refl B w).alloc (by rw [HB.out]; exact Nat.le_refl _) _)⟩
 case round =>
  obtain ⟨k, rfl, hle, HM, HND, HW⟩ := hrel
  by_cases hlt : k < ks.length
  ·obtain ⟨a, ha⟩ : ∃ a, ks[k]? = some a := ⟨_, List.getElem?_eq_getElem hlt⟩
   obtain ⟨g, cap, hv, hg, hcap, ca, hca, hcells⟩ := sl_cell (by rintro a c rfl; rfl) h.out ha
   obtain ⟨rfl, rfl⟩ : A0 = some ⟨g, 0, none⟩ ∧ c0 = cap := by injection hv with h1 _ h3; exact ⟨h1, h3⟩
   have hcell : ∀ (j : Nat) u, ca[j]? = some u → wr.cell? ⟨g, k * 2 + j, none⟩ = some u := fun j u hj => (HW.out.cell (p := ⟨g, k * 2 + j, none⟩) (by rw [← HB.out]; exact hg)).trans (hcells j u hj)
   have hca' : ca = [.string (tx a.1), .string (tx a.2)] := hca
   subst hca'
   have p0 : wr.cell? ⟨g, k * 2, none⟩ = some (.string (tx a.1)) := hcell 0 _ rfl
   have p1 : wr.cell? ⟨g, k * 2 + 1, none⟩ = some (.string (tx a.2)) := hcell 1 _ rfl
   have HA := lhid ha
   have hlt2 : (k : Int) < ks.length := by omega
   have hlt3 : k < c0 := by omega
   have hg2 : g < wr.heap.size := by have := HW.out.size; have := HB.out; omega
   clear hcells hcell ha hv hca
   have HM0 : Hid ((wr.alloc (.cells #[.string (tx a.1), .string (tx a.2)] 154)).heap[B]? = some (.map ((ent1 (ks.take k) 0).map etyV).toArray k)) := lhid ((Below.heap_alloc _ _ _ (heap_lt HM.out)).trans HM.out)
   have HN0 : Hid ((wr.alloc (.cells #[.string (tx a.1), .string (tx a.2)] 154)).heap[wr.heap.size]? = some (.cells #[.string (tx a.1), .string (tx a.2)] 154 (0, 0))) := lhid (heap_alloc_new _ _)
   have HW0 : Hid (Below B w (wr.alloc (.cells #[.string (tx a.1), .string (tx a.2)] 154))) := lhid (HW.out.alloc (by have := HW.out.size; have := HB.out; omega) _)
   have HNB : Hid (wr.heap.size ≠ B) := lhid (Nat.ne_of_gt (heap_lt HM.out))
   have hkl : (ks.take k).length = k := by rw [List.length_take]; omega
   have HKL := lhid hkl
   obtain ⟨hyes, hno⟩ := nodup_next HA.out HND.out
   have HY := lhid hyes
   have HNO := lhid hno
   clear hkl hyes hno
   go_wp2_with fail
   clear p0 p1 hg2
   generalize wr.alloc (.cells #[.string (tx a.1), .string (tx a.2)] 154) = W0 at *
   generalize wr.heap.size = nb at *
   have q0 := heap_cell (i := 0) HN0.out rfl
   have q1 := heap_cell (i := 1) HN0.out rfl
   by_cases hm : a ∈ ks.take k
   ·obtain ⟨j, hfj, hgj⟩ := find_yes a (ks.take k) 0 0 hm
    rw [Nat.zero_add] at hfj hgj
    have hjl : j < (ks.take k).length := by have := (List.getElem?_eq_some_iff.1 hgj).1; rwa [ent1_len] at this
    have hL := lookup_run a W0.drew B k _ HM0.out
    have hE := mapEntry_old a W0.drew B k _ HM0.out hfj hgj
    rw [hfj] at hL
    have hM1 : (setB W0.drew B (.map ((ent1 (ks.take k) 0).map etyV).toArray k)).heap[B]? = _ := setB_at _ _ _ _ HM0.out
    generalize hW1 : setB W0.drew B (.map ((ent1 (ks.take k) 0).map etyV).toArray k) = W1 at *
    have hL1 := lookup_run a W1 B k _ hM1
    rw [hfj] at hL1
    have hfi := findIdx_ety (ks.take k) 0 j hjl
    rw [Nat.zero_add] at hfi
    have hS := entryStore_run W1 B k j j _ (.int .i64 2) hM1 hfi
    rw [map_modify _ j a (.int .i64 1) (.int .i64 2) j hgj] at hS
    have hM2 := setB_at W1 B (.map (((ent1 (ks.take k) 0).set j (a, .int .i64 2, j)).map etyV).toArray k) _ hM1
    have hN2 : (setB W1 B (.map (((ent1 (ks.take k) 0).set j (a, .int .i64 2, j)).map etyV).toArray k)).heap[nb]? = some (.cells #[.string (tx a.1), .string (tx a.2)] 154 (0, 0)) := by rw [setB_other _ _ _ _ HNB.out, ← hW1, setB_other _ _ _ _ HNB.out]; exact HN0.out
    have hW2 : Below B w (setB W1 B (.map (((ent1 (ks.take k) 0).set j (a, .int .i64 2, j)).map etyV).toArray k)) := by rw [← hW1]; exact (Below.setB (Below.setB HW0.out.drew (Nat.le_refl _) _) (Nat.le_refl _) _)
    generalize setB W1 B (.map (((ent1 (ks.take k) 0).set j (a, .int .i64 2, j)).map etyV).toArray k) = W2 at *
    have hL2 := lookup_run a W2 B k _ hM2
    have hf2 := findG_set a (.int .i64 1) (.int .i64 2) j (ent1 (ks.take k) 0) 0 j (by rw [Nat.zero_add]; exact hfj)
    rw [hf2] at hL2
    have hdup := twiceB_yes (HY.out hm)
    have HHL := lhid hL
    have HHE := lhid hE
    have HHL1 := lhid hL1
    have HHS := lhid hS
    have HHL2 := lhid hL2
    have HDUP := lhid hdup
    have HW2 := lhid hW2
    have q2 := heap_cell (i := 0) hN2 rfl
    have q3 := heap_cell (i := 1) hN2 rfl
    clear hL hE hL1 hS hL2 hM1 hM2 hN2 hW2 hfi hfj hgj hf2 hdup hW1
    refine wp_region_any (by kernel_rfl) ?_
    try (change wpAny _ _ _ _ _ _ _ (World.drew _))
    refine wpAny_take (i := 0) (v := ?v0_1) rfl (by kernel_rfl) (by kernel_rfl) (by kernel_rfl) (fun _ _ _ h => h) (Or.inl ⟨by rfl, ?hy0_1⟩) ?rest0_1
    case hy0_1 => intro w; (first | (go_simp; done) | (go_simp; with_reducible rfl))
    refine wpAny_ready (rs := [1]) (by kernel_rfl) (by simp) ?_
    refine AllReady.cons rfl (fun K hK => ?_) AllReady.nil
    go_simp
    refine hK _ _ ?_
    clear hK K
    refine wpAny_ready (rs := [2, 4]) (by kernel_rfl) (by simp) ?_
    refine AllReady.cons rfl (fun K hK => ?_) (AllReady.cons rfl (fun K hK => ?_) AllReady.nil)
    ·go_simp
     rw [HHL.out]
     go_simp
     refine hK _ _ ?_
     clear hK K
     refine wpAny_take (i := 3) (v := ?v3_2) rfl (by kernel_rfl) (by kernel_rfl) (by kernel_rfl) (fun _ _ _ h => h) (Or.inl ⟨by rfl, ?hy3_2⟩) ?rest3_2
     case hy3_2 => intro w; (first | (go_simp; done) | (go_simp; with_reducible rfl))
     refine wpAny_ready (rs := [4]) (by kernel_rfl) (by simp) ?_
     refine AllReady.cons rfl (fun K hK => ?_) AllReady.nil
     go_simp
     rw [HHE.out]
     go_simp
     refine hK _ _ ?_
     clear hK K
     refine wpAny_take (i := 5) (v := ?v5_3) rfl (by kernel_rfl) (by kernel_rfl) (by kernel_rfl) (fun _ _ _ h => h) (Or.inl ⟨by rfl, ?hy5_3⟩) ?rest5_3
     case hy5_3 => intro w; (first | (go_simp; done) | (go_simp; with_reducible rfl))
     refine wpAny_ready (rs := [6]) (by kernel_rfl) (by simp) ?_
     refine AllReady.cons rfl (fun K hK => ?_) AllReady.nil
     go_simp
     rw [show IntKind.i64.wrap 2 = 2 from rfl, HHS.out]
     go_simp
     refine hK _ _ ?_
     clear hK K
     refine wpAny_done (by kernel_rfl) ?_ _
     go_wp2_with fail
     rw [HHL2.out]
     go_wp2_with fail
     go_ret
     exact ⟨by rw [HDUP.out]; rfl, by rw [HB.out]; exact HW2.out⟩
    ·go_simp
     rw [HHE.out]
     go_simp
     refine hK _ _ ?_
     clear hK K
     refine wpAny_take (i := 5) (v := ?v5_4) rfl (by kernel_rfl) (by kernel_rfl) (by kernel_rfl) (fun _ _ _ h => h) (Or.inl ⟨by rfl, ?hy5_4⟩) ?rest5_4
     case hy5_4 => intro w; (first | (go_simp; done) | (go_simp; with_reducible rfl))
     refine wpAny_ready (rs := [2]) (by kernel_rfl) (by simp) ?_
     refine AllReady.cons rfl (fun K hK => ?_) AllReady.nil
     go_simp
     rw [HHL1.out]
     go_simp
     refine hK _ _ ?_
     clear hK K
     refine wpAny_take (i := 3) (v := ?v3_5) rfl (by kernel_rfl) (by kernel_rfl) (by kernel_rfl) (fun _ _ _ h => h) (Or.inl ⟨by rfl, ?hy3_5⟩) ?rest3_5
     case hy3_5 => intro w; (first | (go_simp; done) | (go_simp; with_reducible rfl))
     refine wpAny_ready (rs := [6]) (by kernel_rfl) (by simp) ?_
     refine AllReady.cons rfl (fun K hK => ?_) AllReady.nil
     go_simp
     rw [show IntKind.i64.wrap 2 = 2 from rfl, HHS.out]
     go_simp
     refine hK _ _ ?_
     clear hK K
     refine wpAny_done (by kernel_rfl) ?_ _
     go_wp2_with fail
     rw [HHL2.out]
     go_wp2_with fail
     go_ret
     exact ⟨by rw [HDUP.out]; rfl, by rw [HB.out]; exact HW2.out⟩
   ·have hfn := find_no a (ks.take k) 0 0 hm
    have hel : (ent1 (ks.take k) 0).length = k := by rw [ent1_len, HKL.out]
    have hfl := find_last a (.int .i64 0) k (ent1 (ks.take k) 0) 0 hfn
    have hL := lookup_run a W0.drew B k _ HM0.out
    have hE := mapEntry_new a W0.drew B k _ HM0.out hfn
    rw [hfn] at hL
    have hM1 : (setB W0.drew B (.map ((ent1 (ks.take k) 0 ++ [((a, Value.int .i64 0, k) : Ety)]).map etyV).toArray (k + 1))).heap[B]? = _ := setB_at _ _ _ _ HM0.out
    generalize hW1 : setB W0.drew B (.map ((ent1 (ks.take k) 0 ++ [((a, Value.int .i64 0, k) : Ety)]).map etyV).toArray (k + 1)) = W1 at *
    have hL1 := lookup_run a W1 B (k + 1) _ hM1
    rw [hfl] at hL1
    have hfi := findIdx_last ((ent1 (ks.take k) 0).map etyV) k (etyV (a, .int .i64 0, k)) (by
     intro x hx
     obtain ⟨y, hy, rfl⟩ := List.mem_map.1 hx
     have := ent1_born _ _ _ hy
     rw [HKL.out] at this
     show y.2.2 ≠ k
     omega) rfl
    have hS := entryStore_run W1 B (k + 1) k k _ (.int .i64 1) hM1 (by rw [List.map_append]; rw [show ([((a, Value.int .i64 0, k) : Ety)].map etyV) = [etyV (a, .int .i64 0, k)] from rfl, hfi]; simp [hel])
    have hnew : ((ent1 (ks.take k) 0 ++ [((a, Value.int .i64 0, k) : Ety)]).map etyV).toArray.modify k (fun e => { e with val := Value.int .i64 1 }) = ((ent1 (ks.take (k + 1)) 0).map etyV).toArray := by
     rw [map_modify _ k a (.int .i64 0) (.int .i64 1) k (by rw [List.getElem?_append_right (by omega), hel]; simp), take_snoc _ _ _ HA.out, ent1_snoc, HKL.out]
     congr 2
     rw [List.set_append_right _ _ (by omega), hel]
     simp
    rw [hnew] at hS
    have hM2 := setB_at W1 B (.map ((ent1 (ks.take (k + 1)) 0).map etyV).toArray (k + 1)) _ hM1
    have hN2 : (setB W1 B (.map ((ent1 (ks.take (k + 1)) 0).map etyV).toArray (k + 1))).heap[nb]? = some (.cells #[.string (tx a.1), .string (tx a.2)] 154 (0, 0)) := by rw [setB_other _ _ _ _ HNB.out, ← hW1, setB_other _ _ _ _ HNB.out]; exact HN0.out
    have hW2 : Below B w (setB W1 B (.map ((ent1 (ks.take (k + 1)) 0).map etyV).toArray (k + 1))) := by rw [← hW1]; exact (Below.setB (Below.setB HW0.out.drew (Nat.le_refl _) _) (Nat.le_refl _) _)
    generalize setB W1 B (.map ((ent1 (ks.take (k + 1)) 0).map etyV).toArray (k + 1)) = W2 at *
    have hL2 := lookup_run a W2 B (k + 1) _ hM2
    have hnd2 := HNO.out hm
    obtain ⟨j2, hf2, _⟩ := find_yes a (ks.take (k + 1)) 0 0 (by rw [take_snoc _ _ _ HA.out]; simp)
    rw [hf2] at hL2
    have HHL := lhid hL
    have HHE := lhid hE
    have HHL1 := lhid hL1
    have HHS := lhid hS
    have HHL2 := lhid hL2
    have HM2 := lhid hM2
    have HND2 := lhid hnd2
    have HW2 := lhid hW2
    have q2 := heap_cell (i := 0) hN2 rfl
    have q3 := heap_cell (i := 1) hN2 rfl
    clear hL hE hL1 hS hL2 hM1 hM2 hN2 hW2 hnew hfi hfl hfn hnd2 hf2 hW1
    refine wp_region_any (by kernel_rfl) ?_
    try (change wpAny _ _ _ _ _ _ _ (World.drew _))
    refine wpAny_take (i := 0) (v := ?v0_6) rfl (by kernel_rfl) (by kernel_rfl) (by kernel_rfl) (fun _ _ _ h => h) (Or.inl ⟨by rfl, ?hy0_6⟩) ?rest0_6
    case hy0_6 => intro w; (first | (go_simp; done) | (go_simp; with_reducible rfl))
    refine wpAny_ready (rs := [1]) (by kernel_rfl) (by simp) ?_
    refine AllReady.cons rfl (fun K hK => ?_) AllReady.nil
    go_simp
    refine hK _ _ ?_
    clear hK K
    refine wpAny_ready (rs := [2, 4]) (by kernel_rfl) (by simp) ?_
    refine AllReady.cons rfl (fun K hK => ?_) (AllReady.cons rfl (fun K hK => ?_) AllReady.nil)
    ·go_simp
     rw [HHL.out]
     go_simp
     refine hK _ _ ?_
     clear hK K
     refine wpAny_take (i := 3) (v := ?v3_7) rfl (by kernel_rfl) (by kernel_rfl) (by kernel_rfl) (fun _ _ _ h => h) (Or.inl ⟨by rfl, ?hy3_7⟩) ?rest3_7
     case hy3_7 => intro w; (first | (go_simp; done) | (go_simp; with_reducible rfl))
     refine wpAny_ready (rs := [4]) (by kernel_rfl) (by simp) ?_
     refine AllReady.cons rfl (fun K hK => ?_) AllReady.nil
     go_simp
     rw [HHE.out]
     go_simp
     refine hK _ _ ?_
     clear hK K
     refine wpAny_take (i := 5) (v := ?v5_8) rfl (by kernel_rfl) (by kernel_rfl) (by kernel_rfl) (fun _ _ _ h => h) (Or.inl ⟨by rfl, ?hy5_8⟩) ?rest5_8
     case hy5_8 => intro w; (first | (go_simp; done) | (go_simp; with_reducible rfl))
     refine wpAny_ready (rs := [6]) (by kernel_rfl) (by simp) ?_
     refine AllReady.cons rfl (fun K hK => ?_) AllReady.nil
     go_simp
     rw [show IntKind.i64.wrap 1 = 1 from rfl, HHS.out]
     go_simp
     refine hK _ _ ?_
     clear hK K
     refine wpAny_done (by kernel_rfl) ?_ _
     go_wp2_with fail
     rw [HHL2.out]
     go_wp2_with fail
     go_roundw
     case rel => exact ⟨k + 1, by go_num, by omega, HM2, HND2, HW2⟩
     case measure => simp [intOf]; omega
    ·go_simp
     rw [HHE.out]
     go_simp
     refine hK _ _ ?_
     clear hK K
     refine wpAny_take (i := 5) (v := ?v5_9) rfl (by kernel_rfl) (by kernel_rfl) (by kernel_rfl) (fun _ _ _ h => h) (Or.inl ⟨by rfl, ?hy5_9⟩) ?rest5_9
     case hy5_9 => intro w; (first | (go_simp; done) | (go_simp; with_reducible rfl))
     refine wpAny_ready (rs := [2]) (by kernel_rfl) (by simp) ?_
     refine AllReady.cons rfl (fun K hK => ?_) AllReady.nil
     go_simp
     rw [HHL1.out]
     go_simp
     refine hK _ _ ?_
     clear hK K
     refine wpAny_take (i := 3) (v := ?v3_10) rfl (by kernel_rfl) (by kernel_rfl) (by kernel_rfl) (fun _ _ _ h => h) (Or.inl ⟨by rfl, ?hy3_10⟩) ?rest3_10
     case hy3_10 => intro w; (first | (go_simp; done) | (go_simp; with_reducible rfl))
     refine wpAny_ready (rs := [6]) (by kernel_rfl) (by simp) ?_
     refine AllReady.cons rfl (fun K hK => ?_) AllReady.nil
     go_simp
     rw [show IntKind.i64.wrap 1 = 1 from rfl, HHS.out]
     go_simp
     refine hK _ _ ?_
     clear hK K
     refine wpAny_done (by kernel_rfl) ?_ _
     go_wp2_with fail
     rw [HHL2.out]
     go_wp2_with fail
     go_roundw
     case rel => exact ⟨k + 1, by go_num, by omega, HM2, HND2, HW2⟩
     case measure => simp [intOf]; omega
  ·have he : k = ks.length := by omega
   have hlt2 : ¬ (k : Int) < ks.length := by omega
   have HN := lhid he
   clear he
   go_wp2_with fail
   go_ret
   have hnd := HND.out
   rw [HN.out, List.take_of_length_le (Nat.le_refl _)] at hnd
   exact ⟨by rw [twiceB_no hnd]; rfl, by rw [HB.out]; exact HW.out⟩
end Go.Proofs.YtgihfcimngogfaaGreat
