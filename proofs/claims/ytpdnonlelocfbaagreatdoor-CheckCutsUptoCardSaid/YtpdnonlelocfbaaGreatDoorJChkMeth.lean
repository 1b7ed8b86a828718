/- Package check: Method. -/
import Derived.Test.YtpdnonlelocfbaaGreatDoorJChkSteps
import Derived.Deep.MidRow
namespace Go.Proofs.YtpdnonlelocfbaaGreatDoor
open Go.RowKit Go Go.Maps
set_option linter.unusedVariables false
theorem wpList_run {P : Program} {ops : Array Oper} {rest : List Oper} {o : Oper} {a : Act} {w w' : World} {Q : Exit → Act → World → Prop} {v : Value} (hgd : o.guard = none) (hr : (execOp a.eval o).run P w = .ok (.value v) w') (h : wpList P ops Q rest (a.put o.dst v) w') : wpList P ops Q (o :: rest) a w :=
  wpList_plain hgd fun K hK => by
    unfold Oper.wp
    rw [hr]
    exact hK _ _ h
theorem set_take (v : Value) : ∀ (cs : List Value) (o : Nat), o < cs.length → (cs.set o v).take (o + 1) = cs.take o ++ [v]
  | [], o, h => by simp at h
  | a :: r, 0, _ => by simp
  | a :: r, o + 1, h => by
    simp only [List.set_cons_succ, List.take_succ_cons, List.cons_append]
    rw [set_take v r o (by simpa using h)]
theorem heap_setCellsA {b t : Nat} : ∀ (vs : List Value) (o : Nat) (w : World) (cs : List Value), w.heap[b]? = some (.cells cs.toArray t (0, 0)) → o + vs.length = cs.length → (w.setCells b o vs).heap[b]? = some (.cells (cs.take o ++ vs).toArray t (0, 0))
  | [], o, w, cs, h, hl => by
    have : o = cs.length := by simpa using hl
    subst this
    rw [World.setCells, List.take_length, List.append_nil]
    exact h
  | v :: r, o, w, cs, h, hl => by
    rw [World.setCells]
    have hl' : o + (r.length + 1) = cs.length := by simpa using hl
    have h1 := heap_set (i := o) h v
    rw [List.setIfInBounds_toArray] at h1
    have := heap_setCellsA r (o + 1) _ (cs.set o v) h1 (by simp; omega)
    rw [this, set_take v cs o (by omega), List.append_assoc]
    rfl
theorem heap_setCells_ne {b g : Nat} (hg : g ≠ b) : ∀ (vs : List Value) (o : Nat) (w : World), (w.setCells b o vs).heap[g]? = w.heap[g]?
  | [], o, w => rfl
  | v :: r, o, w => by
    rw [World.setCells]
    exact (heap_setCells_ne hg r (o + 1) _).trans (Below.heap_setCell _ _ _ _ hg)
theorem size_setCells {b : Nat} : ∀ (vs : List Value) (o : Nat) (w : World), (w.setCells b o vs).heap.size = w.heap.size
  | [], o, w => rfl
  | v :: r, o, w => by
    rw [World.setCells, size_setCells r (o + 1) _]
    simp [World.setCell]
theorem below_setCells {B b : Nat} {a : World} (hb : B ≤ b) : ∀ (vs : List Value) (o : Nat) (w : World), Below B a w → Below B a (w.setCells b o vs)
  | [], o, w, h => h
  | v :: r, o, w, h => by
    rw [World.setCells]
    exact below_setCells hb r (o + 1) _ (h.setCell (p := ⟨b, o, none⟩) hb v)
theorem szCk : (Tryz.prog.info? 107).map (·.size) = some 25 := by kernel_rfl
theorem szCl : (Tryz.prog.info? 39).map (·.size) = some 7 := by kernel_rfl
theorem szMt : (Tryz.prog.info? 27).map (·.size) = some 8 := by kernel_rfl
/-- What Method answers. -/
def MtOut (w : World) (x : Mt) (e : Ending) (w' : World) : Prop :=
  Below w.heap.size w w' ∧ match x with
    | .er v => e = .returned (.tuple #[.slice none 0 0, .int .i64 v])
    | .ok L => ∃ st D, e = .returned (.tuple #[st, .int .i64 0]) ∧ Sts D w.heap.size w' st L
/-- Where the loop over the steps is. -/
def MInv (E : Chk) (w W6 : World) (c fb fnb : Nat) (F : Fx) (L : Bs) (loc : List Bs) (M : Nat) (bg : Int) (tk : Int × List Fm) (re : Int) (wk : Wk) : Nat → World → Prop
  | 0, wr => wr = W6
  | 1, wr => bg = 0 ∧ MS1 E w W6 c F L loc wr
  | 2, wr => bg = 0 ∧ tk.1 = 0 ∧ MS2 E w c fb fnb F L loc M tk.2 wr
  | 3, wr => bg = 0 ∧ tk.1 = 0 ∧ re = 0 ∧ MS2 E w c fb fnb F L loc M tk.2 wr
  | 4, wr => bg = 0 ∧ tk.1 = 0 ∧ re = 0 ∧ ∃ kn l, wk = .ok kn l ∧ MS4 E w c fnb kn l wr
  | _, wr => bg = 0 ∧ tk.1 = 0 ∧ re = 0 ∧ ∃ l, wk = .ok false l ∧ MS4 E w c fnb false l wr
section
variable {E : Chk} {tb : Nat} {w : World}
set_option maxHeartbeats 16000000 in
set_option maxRecDepth 100000 in
theorem method_c (HE : Hid (Env E tb w)) (hG : Hid E.Good) {k1 : Int} {cn k3 : Bs} {A4 A5 A6 A7 : Option Addr} {l4 l5 l6 l7 d4 d5 d6 d7 : Nat} {mf : Int} {m1 md : Bs} {ms ml : Int} {B5 B6 B7 : Option Addr} {L : Bs} {rows : List RwI} {frames : List FrI} {e5 e6 e7 : Nat}
    (hpool : Hid (RdX (fun g => g < w.heap.size) 5 CoE w (.slice A5 l5 d5) E.pool)) (HL : Hid (Cd.Bts w (.slice B5 L.length e5) L)) (HR : Hid (RdX (fun g => g < w.heap.size) 4 RwE w (.slice B6 rows.length e6) rows)) (HM : Hid (RdX (fun g => g < w.heap.size) 3 (FrE fun g => g < w.heap.size) w (.slice B7 frames.length e7) frames))
    (hms : I6 ms) (hml : I6 ml) (hcn : cn.length ≤ ML) (hown : E.of cn = E.own) (hmd : md.length ≤ ML) (hroom : 0 ≤ ms → ms ≤ 20 → ms = E.room) (hko : bStat mf = false → E.known E.own = true) {de : Int} {dp : List Bs}
    (HD : Hid (∀ w', Calls Tryz.prog 95 #[.string (tx md)] w' fun e w'' => ∃ v, e = .returned (.tuple #[v, .string (tx E.gives), .int .i64 de]) ∧ w''.ownsRow w'.heap.size 9 1 v dp.length (lnV dp) ∧ Below w'.heap.size w' w'')) (hdl : dp.length ≤ 20) (hds : Hid (∀ t ∈ dp, t.length ≤ ML))
    (hfr : ∀ f ∈ frames, I6 f.pc ∧ (∀ t ∈ f.locals, t.length ≤ ML) ∧ ∀ t ∈ f.stack, t.length ≤ ML) (hri : ∀ x ∈ rows, I6 x.at_ ∧ x.cls.length ≤ 4294967296) :
    Calls Tryz.prog 15 #[.pointer (some ⟨tb, 0, none⟩), .agg #[.int .i64 k1, .string (tx cn), .string (tx k3), .slice A4 l4 d4, .slice A5 l5 d5, .slice A6 l6 d6, .slice A7 l7 d7], .agg #[.int .i64 mf, .string (tx m1), .string (tx md), .int .i64 ms, .int .i64 ml, .slice B5 L.length e5, .slice B6 rows.length e6, .slice B7 frames.length e7]] w
      (MtOut w (metC E (decI L) L.length ms ml (de, dp) (bStat mf) frames rows)) := by
  obtain ⟨bg, hbg⟩ : ∃ b, bgE E (Cd.decR L).1 ms ml (de, dp) (bStat mf) = b := ⟨_, rfl⟩
  obtain ⟨tk, htk⟩ : ∃ x, takeF E ml.toNat (decI L).2 frames (-1) [] = x := ⟨_, rfl⟩
  obtain ⟨re, hre⟩ : ∃ x, rowsE E (decI L).2 tk.2 L.length rows = x := ⟨_, rfl⟩
  obtain ⟨wk, hwk⟩ : ∃ x, walkC E tk.2 rows (decI L).2 true ⟨fill (firstLoc E (bStat mf) dp) ml.toNat, [], 0⟩ [] = x := ⟨_, rfl⟩
  obtain ⟨loc, hloc⟩ : ∃ l, fill (firstLoc E (bStat mf) dp) ml.toNat = l := ⟨_, rfl⟩
  obtain ⟨mt, hmt⟩ : ∃ x, metC E (decI L) L.length ms ml (de, dp) (bStat mf) frames rows = x := ⟨_, rfl⟩
  have hm := metC_eq (E := E) (dec := decI L) (len := L.length) (stack := ms) (locals := ml) (d := (de, dp)) (stat := bStat mf) (frames := frames) (rows := rows)
  rw [hmt, show (decI L).1 = (Cd.decR L).1 from rfl, hbg, htk, hre] at hm
  have hm1 : bg ≠ 0 → mt = .er bg := fun h => by rw [hm, if_pos h]
  have hm2 : bg = 0 → tk.1 ≠ 0 → mt = .er tk.1 := fun h h2 => by rw [hm, if_neg (fun k => k h), if_pos h2]
  have hm3 : bg = 0 → tk.1 = 0 → re ≠ 0 → mt = .er re := fun h h2 h3 => by rw [hm, if_neg (fun k => k h), if_neg (fun k => k h2), if_pos h3]
  have hm4 : bg = 0 → tk.1 = 0 → re = 0 → ∀ v, wk = .er v → mt = .er v := fun h h2 h3 v hv => by
    rw [hm, if_neg (fun k => k h), if_neg (fun k => k h2), if_neg (fun k => k h3)]
    simp only [firstLoc] at hwk ⊢
    rw [hwk, hv]
  have hm5 : bg = 0 → tk.1 = 0 → re = 0 → ∀ kn l, wk = .ok kn l → mt = if kn then .er 60 else .ok l := fun h h2 h3 kn l hv => by
    rw [hm, if_neg (fun k => k h), if_neg (fun k => k h2), if_neg (fun k => k h3)]
    simp only [firstLoc] at hwk ⊢
    rw [hwk, hv]
  have HM1 := lhid hm1
  have HM2 := lhid hm2
  have HM3 := lhid hm3
  have HM4 := lhid hm4
  have HM5 := lhid hm5
  have HBG := lhid hbg
  have HTK := lhid htk
  have HRE := lhid hre
  have HWK := lhid hwk
  have HLOC := lhid hloc
  have HMS := lhid hms
  have HML := lhid hml
  have HCN := lhid hcn
  have HOWN := lhid hown
  have HROOM := lhid hroom
  have HKO := lhid hko
  have HFR := lhid hfr
  have HRI := lhid hri
  rw [hmt]
  clear hbg htk hre hwk hloc hmt hm hm1 hm2 hm3 hm4 hm5 hms hml hcn hown hroom hko hfr hri hmd
  have hx1 : ((w.alloc (.cells #[.int .i64 k1, .string (tx cn), .string (tx k3), .slice A4 l4 d4, .slice A5 l5 d5, .slice A6 l6 d6, .slice A7 l7 d7] 39)).alloc (.cells #[.int .i64 mf, .string (tx m1), .string (tx md), .int .i64 ms, .int .i64 ml, .slice B5 L.length e5, .slice B6 rows.length e6, .slice B7 frames.length e7] 27)).heap[w.heap.size]? = some (.cells #[.int .i64 k1, .string (tx cn), .string (tx k3), .slice A4 l4 d4, .slice A5 l5 d5, .slice A6 l6 d6, .slice A7 l7 d7] 39 (0, 0)) := (heap_alloc_old _ _ (by simp)).trans (heap_alloc_new w _)
  have hx2 : ((w.alloc (.cells #[.int .i64 k1, .string (tx cn), .string (tx k3), .slice A4 l4 d4, .slice A5 l5 d5, .slice A6 l6 d6, .slice A7 l7 d7] 39)).alloc (.cells #[.int .i64 mf, .string (tx m1), .string (tx md), .int .i64 ms, .int .i64 ml, .slice B5 L.length e5, .slice B6 rows.length e6, .slice B7 frames.length e7] 27)).heap[w.heap.size + 1]? = some (.cells #[.int .i64 mf, .string (tx m1), .string (tx md), .int .i64 ms, .int .i64 ml, .slice B5 L.length e5, .slice B6 rows.length e6, .slice B7 frames.length e7] 27 (0, 0)) := heap_alloc2_new w _ _
  have hb1 : Below w.heap.size w ((w.alloc (.cells #[.int .i64 k1, .string (tx cn), .string (tx k3), .slice A4 l4 d4, .slice A5 l5 d5, .slice A6 l6 d6, .slice A7 l7 d7] 39)).alloc (.cells #[.int .i64 mf, .string (tx m1), .string (tx md), .int .i64 ms, .int .i64 ml, .slice B5 L.length e5, .slice B6 rows.length e6, .slice B7 frames.length e7] 27)) := ((Below.refl _ _).alloc (Nat.le_refl _) _).alloc (by simp) _
  have hz1 : ((w.alloc (.cells #[.int .i64 k1, .string (tx cn), .string (tx k3), .slice A4 l4 d4, .slice A5 l5 d5, .slice A6 l6 d6, .slice A7 l7 d7] 39)).alloc (.cells #[.int .i64 mf, .string (tx m1), .string (tx md), .int .i64 ms, .int .i64 ml, .slice B5 L.length e5, .slice B6 rows.length e6, .slice B7 frames.length e7] 27)).heap.size = w.heap.size + 2 := by simp
  obtain ⟨W1, hW1⟩ : ∃ x, ((w.alloc (.cells #[.int .i64 k1, .string (tx cn), .string (tx k3), .slice A4 l4 d4, .slice A5 l5 d5, .slice A6 l6 d6, .slice A7 l7 d7] 39)).alloc (.cells #[.int .i64 mf, .string (tx m1), .string (tx md), .int .i64 ms, .int .i64 ml, .slice B5 L.length e5, .slice B6 rows.length e6, .slice B7 frames.length e7] 27)) = x := ⟨_, rfl⟩
  rw [hW1] at hx1 hx2 hb1 hz1
  have HW1 := lhid hW1
  have HX1 := lhid hx1
  have HX2 := lhid hx2
  have HB1 := lhid hb1
  have HZ1 := lhid hz1
  clear hW1 hx1 hx2 hb1 hz1
  go_enter Tryz.func15, Tryz.ntmps15
  go_upto_region 1 with fail
  rw [HW1.out]
  refine wp_region_lit ?_
  refine wpList_run (v := .pointer (some ⟨tb, 0, none⟩)) (w' := W1) rfl (by kernel_rfl) ?_
  refine wpList_load_mid rfl 39 (.tmp 4) rfl w.heap.size 0 rfl [.int .i64 k1, .string (tx cn), .string (tx k3), .slice A4 l4 d4, .slice A5 l5 d5, .slice A6 l6 d6, .slice A7 l7 d7] _ (fun j v hv => by rw [Nat.zero_add]; exact heap_cell HX1.out (by simpa using hv)) Tryz.underlying39 rfl szCl ?_
  refine wpList_load_mid rfl 27 (.tmp 5) rfl (w.heap.size + 1) 0 rfl [.int .i64 mf, .string (tx m1), .string (tx md), .int .i64 ms, .int .i64 ml, .slice B5 L.length e5, .slice B6 rows.length e6, .slice B7 frames.length e7] _ (fun j v hv => by rw [Nat.zero_add]; exact heap_cell HX2.out (by simpa using hv)) Tryz.underlying27 rfl szMt ?_
  refine wpList_run (v := .map (some W1.heap.size)) (w' := W1.alloc (.map #[] 0)) rfl (by kernel_rfl) ?_
  have hs2 : (W1.alloc (.map #[] 0)).heap.size = W1.heap.size + 1 := by simp
  refine wpList_run (v := .map (some (W1.alloc (.map #[] 0)).heap.size)) (w' := (W1.alloc (.map #[] 0)).alloc (.map #[] 0)) rfl (by kernel_rfl) ?_
  rw [hs2]
  refine wpList_run (v := .agg #[.pointer (some ⟨tb, 0, none⟩), .int .i64 k1, .string (tx cn), .string (tx k3), .slice A4 l4 d4, .slice A5 l5 d5, .slice A6 l6 d6, .slice A7 l7 d7, .int .i64 mf, .string (tx m1), .string (tx md), .int .i64 ms, .int .i64 ml, .slice B5 L.length e5, .slice B6 rows.length e6, .slice B7 frames.length e7, .slice none 0 0, .string ⟨#[]⟩, .map (some W1.heap.size), .map (some (W1.heap.size + 1)), .slice none 0 0, .slice none 0 0, .bool false, .int .i64 0, .slice none 0 0]) (w' := (W1.alloc (.map #[] 0)).alloc (.map #[] 0)) rfl (by kernel_rfl) ?_
  have hs3 : ((W1.alloc (.map #[] 0)).alloc (.map #[] 0)).heap.size = W1.heap.size + 2 := by simp
  refine wpList_run (v := .pointer (some ⟨((W1.alloc (.map #[] 0)).alloc (.map #[] 0)).heap.size, 0, none⟩)) (w' := ((W1.alloc (.map #[] 0)).alloc (.map #[] 0)).alloc (.cells #[.pointer none, .int .i64 0, .string ⟨#[]⟩, .string ⟨#[]⟩, .slice none 0 0, .slice none 0 0, .slice none 0 0, .slice none 0 0, .int .i64 0, .string ⟨#[]⟩, .string ⟨#[]⟩, .int .i64 0, .int .i64 0, .slice none 0 0, .slice none 0 0, .slice none 0 0, .slice none 0 0, .string ⟨#[]⟩, .map none, .map none, .slice none 0 0, .slice none 0 0, .bool false, .int .i64 0, .slice none 0 0] 107)) rfl (by kernel_rfl) ?_
  rw [hs3]
  have hc4 := heap_alloc_new ((W1.alloc (.map #[] 0)).alloc (.map #[] 0)) (.cells #[.pointer none, .int .i64 0, .string ⟨#[]⟩, .string ⟨#[]⟩, .slice none 0 0, .slice none 0 0, .slice none 0 0, .slice none 0 0, .int .i64 0, .string ⟨#[]⟩, .string ⟨#[]⟩, .int .i64 0, .int .i64 0, .slice none 0 0, .slice none 0 0, .slice none 0 0, .slice none 0 0, .string ⟨#[]⟩, .map none, .map none, .slice none 0 0, .slice none 0 0, .bool false, .int .i64 0, .slice none 0 0] 107)
  rw [hs3] at hc4
  obtain ⟨W4, hW4⟩ : ∃ x, ((W1.alloc (.map #[] 0)).alloc (.map #[] 0)).alloc (.cells #[.pointer none, .int .i64 0, .string ⟨#[]⟩, .string ⟨#[]⟩, .slice none 0 0, .slice none 0 0, .slice none 0 0, .slice none 0 0, .int .i64 0, .string ⟨#[]⟩, .string ⟨#[]⟩, .int .i64 0, .int .i64 0, .slice none 0 0, .slice none 0 0, .slice none 0 0, .slice none 0 0, .string ⟨#[]⟩, .map none, .map none, .slice none 0 0, .slice none 0 0, .bool false, .int .i64 0, .slice none 0 0] 107) = x := ⟨_, rfl⟩
  rw [hW4] at hc4 ⊢
  refine wpList_store_mid rfl 107 (.tmp 8) (.tmp 17) rfl (W1.heap.size + 2) 0 #[.pointer (some ⟨tb, 0, none⟩), .int .i64 k1, .string (tx cn), .string (tx k3), .slice A4 l4 d4, .slice A5 l5 d5, .slice A6 l6 d6, .slice A7 l7 d7, .int .i64 mf, .string (tx m1), .string (tx md), .int .i64 ms, .int .i64 ml, .slice B5 L.length e5, .slice B6 rows.length e6, .slice B7 frames.length e7, .slice none 0 0, .string ⟨#[]⟩, .map (some W1.heap.size), .map (some (W1.heap.size + 1)), .slice none 0 0, .slice none 0 0, .bool false, .int .i64 0, .slice none 0 0] (by kernel_rfl) (by kernel_rfl) (fun j hj => ⟨by rw [Nat.zero_add, heap_cell hc4 (List.getElem?_toArray ▸ List.getElem?_eq_getElem (by simpa using hj))]; rfl, by rw [Nat.zero_add]; exact heap_thaw hc4 j⟩) szCk (by first | kernel_rfl | simp [Value.oneCell']) ?_
  refine wpList_nil ?_
  simp only [Act.put, List.setIfInBounds_toArray, List.set_cons_zero, List.set_cons_succ]
  have hc5 : (W4.setCells (W1.heap.size + 2) 0 [.pointer (some ⟨tb, 0, none⟩), .int .i64 k1, .string (tx cn), .string (tx k3), .slice A4 l4 d4, .slice A5 l5 d5, .slice A6 l6 d6, .slice A7 l7 d7, .int .i64 mf, .string (tx m1), .string (tx md), .int .i64 ms, .int .i64 ml, .slice B5 L.length e5, .slice B6 rows.length e6, .slice B7 frames.length e7, .slice none 0 0, .string ⟨#[]⟩, .map (some W1.heap.size), .map (some (W1.heap.size + 1)), .slice none 0 0, .slice none 0 0, .bool false, .int .i64 0, .slice none 0 0]).heap[W1.heap.size + 2]? = some (.cells (ckA ⟨tb, .int .i64 k1, cn, .string (tx k3), .slice A4 l4 d4, .slice A5 l5 d5, .slice A6 l6 d6, .slice A7 l7 d7, mf, .string (tx m1), md, ms, ml, .slice B5 L.length e5, .slice B6 rows.length e6, .slice B7 frames.length e7, .slice none 0 0, [], W1.heap.size, W1.heap.size + 1⟩ (.slice none 0 0) (.slice none 0 0) false 0 (.slice none 0 0)) 107 (0, 0)) := heap_setCellsA [.pointer (some ⟨tb, 0, none⟩), .int .i64 k1, .string (tx cn), .string (tx k3), .slice A4 l4 d4, .slice A5 l5 d5, .slice A6 l6 d6, .slice A7 l7 d7, .int .i64 mf, .string (tx m1), .string (tx md), .int .i64 ms, .int .i64 ml, .slice B5 L.length e5, .slice B6 rows.length e6, .slice B7 frames.length e7, .slice none 0 0, .string ⟨#[]⟩, .map (some W1.heap.size), .map (some (W1.heap.size + 1)), .slice none 0 0, .slice none 0 0, .bool false, .int .i64 0, .slice none 0 0] 0 W4 [.pointer none, .int .i64 0, .string ⟨#[]⟩, .string ⟨#[]⟩, .slice none 0 0, .slice none 0 0, .slice none 0 0, .slice none 0 0, .int .i64 0, .string ⟨#[]⟩, .string ⟨#[]⟩, .int .i64 0, .int .i64 0, .slice none 0 0, .slice none 0 0, .slice none 0 0, .slice none 0 0, .string ⟨#[]⟩, .map none, .map none, .slice none 0 0, .slice none 0 0, .bool false, .int .i64 0, .slice none 0 0] hc4 rfl
  have hz4 : W4.heap.size = W1.heap.size + 3 := by rw [← hW4]; simp
  have hb4 : Below w.heap.size w W4 := by
    have := HZ1.out
    rw [← hW4]
    exact ((HB1.out.alloc (by omega) _).alloc (by simp; omega) _).alloc (by simp; omega) _
  have hmi4 : MI W4 W1.heap.size 0 (fun _ => none) := (mi_made W1).of (by rw [← hW4]; exact (heap_alloc_old _ _ (by simp; omega)).trans (heap_alloc_old _ _ (by simp)))
  have hmv4 : MV W4 (W1.heap.size + 1) 0 (fun _ => none) := by
    have := mv_made (W1.alloc (.map #[] 0))
    rw [hs2] at this
    exact this.of (by rw [← hW4]; exact heap_alloc_old _ _ (by simp))
  have hb5 := below_setCells (b := W1.heap.size + 2) (by have := HZ1.out; omega) [.pointer (some ⟨tb, 0, none⟩), .int .i64 k1, .string (tx cn), .string (tx k3), .slice A4 l4 d4, .slice A5 l5 d5, .slice A6 l6 d6, .slice A7 l7 d7, .int .i64 mf, .string (tx m1), .string (tx md), .int .i64 ms, .int .i64 ml, .slice B5 L.length e5, .slice B6 rows.length e6, .slice B7 frames.length e7, .slice none 0 0, .string ⟨#[]⟩, .map (some W1.heap.size), .map (some (W1.heap.size + 1)), .slice none 0 0, .slice none 0 0, .bool false, .int .i64 0, .slice none 0 0] 0 W4 hb4
  have hz5 := size_setCells (b := W1.heap.size + 2) [.pointer (some ⟨tb, 0, none⟩), .int .i64 k1, .string (tx cn), .string (tx k3), .slice A4 l4 d4, .slice A5 l5 d5, .slice A6 l6 d6, .slice A7 l7 d7, .int .i64 mf, .string (tx m1), .string (tx md), .int .i64 ms, .int .i64 ml, .slice B5 L.length e5, .slice B6 rows.length e6, .slice B7 frames.length e7, .slice none 0 0, .string ⟨#[]⟩, .map (some W1.heap.size), .map (some (W1.heap.size + 1)), .slice none 0 0, .slice none 0 0, .bool false, .int .i64 0, .slice none 0 0] 0 W4
  have hmi5 := hmi4.of (heap_setCells_ne (b := W1.heap.size + 2) (by omega) [.pointer (some ⟨tb, 0, none⟩), .int .i64 k1, .string (tx cn), .string (tx k3), .slice A4 l4 d4, .slice A5 l5 d5, .slice A6 l6 d6, .slice A7 l7 d7, .int .i64 mf, .string (tx m1), .string (tx md), .int .i64 ms, .int .i64 ml, .slice B5 L.length e5, .slice B6 rows.length e6, .slice B7 frames.length e7, .slice none 0 0, .string ⟨#[]⟩, .map (some W1.heap.size), .map (some (W1.heap.size + 1)), .slice none 0 0, .slice none 0 0, .bool false, .int .i64 0, .slice none 0 0] 0 W4)
  have hmv5 := hmv4.of (heap_setCells_ne (b := W1.heap.size + 2) (by omega) [.pointer (some ⟨tb, 0, none⟩), .int .i64 k1, .string (tx cn), .string (tx k3), .slice A4 l4 d4, .slice A5 l5 d5, .slice A6 l6 d6, .slice A7 l7 d7, .int .i64 mf, .string (tx m1), .string (tx md), .int .i64 ms, .int .i64 ml, .slice B5 L.length e5, .slice B6 rows.length e6, .slice B7 frames.length e7, .slice none 0 0, .string ⟨#[]⟩, .map (some W1.heap.size), .map (some (W1.heap.size + 1)), .slice none 0 0, .slice none 0 0, .bool false, .int .i64 0, .slice none 0 0] 0 W4)
  obtain ⟨W5, hW5⟩ : ∃ x, W4.setCells (W1.heap.size + 2) 0 [.pointer (some ⟨tb, 0, none⟩), .int .i64 k1, .string (tx cn), .string (tx k3), .slice A4 l4 d4, .slice A5 l5 d5, .slice A6 l6 d6, .slice A7 l7 d7, .int .i64 mf, .string (tx m1), .string (tx md), .int .i64 ms, .int .i64 ml, .slice B5 L.length e5, .slice B6 rows.length e6, .slice B7 frames.length e7, .slice none 0 0, .string ⟨#[]⟩, .map (some W1.heap.size), .map (some (W1.heap.size + 1)), .slice none 0 0, .slice none 0 0, .bool false, .int .i64 0, .slice none 0 0] = x := ⟨_, rfl⟩
  rw [hW5] at hc5 hb5 hz5 hmi5 hmv5
  rw [hW5]
  rw [hz4] at hz5
  have hz1 := HZ1.out
  obtain ⟨fb, hfb⟩ : ∃ x, W1.heap.size = x := ⟨_, rfl⟩
  rw [hfb] at hc5 hz5 hmi5 hmv5 hz1 ⊢
  clear hW5 hW4 hmi4 hmv4 hb4 hz4 hc4 hs2 hs3 hfb
  have HC5 := lhid hc5
  have HB5 := lhid hb5
  have HZ5 := lhid hz5
  have HMI5 := lhid hmi5
  have HMV5 := lhid hmv5
  have HZF := lhid hz1
  clear hc5 hb5 hz5 hmi5 hmv5 hz1
  have hb6 : Below w.heap.size w (W5.alloc (.cells #[.func (.func 48) #[.pointer (some ⟨fb + 2, 0, none⟩)] #[], .func (.func 49) #[.pointer (some ⟨fb + 2, 0, none⟩)] #[], .func (.func 50) #[.pointer (some ⟨fb + 2, 0, none⟩)] #[], .func (.func 51) #[.pointer (some ⟨fb + 2, 0, none⟩)] #[], .func (.func 52) #[.pointer (some ⟨fb + 2, 0, none⟩)] #[]] 108)) := HB5.out.alloc HB5.out.size _
  have hz6 : (W5.alloc (.cells #[.func (.func 48) #[.pointer (some ⟨fb + 2, 0, none⟩)] #[], .func (.func 49) #[.pointer (some ⟨fb + 2, 0, none⟩)] #[], .func (.func 50) #[.pointer (some ⟨fb + 2, 0, none⟩)] #[], .func (.func 51) #[.pointer (some ⟨fb + 2, 0, none⟩)] #[], .func (.func 52) #[.pointer (some ⟨fb + 2, 0, none⟩)] #[]] 108)).heap.size = fb + 4 := by have := HZ5.out; simp; omega
  have hc6 := (heap_alloc_old W5 (.cells #[.func (.func 48) #[.pointer (some ⟨fb + 2, 0, none⟩)] #[], .func (.func 49) #[.pointer (some ⟨fb + 2, 0, none⟩)] #[], .func (.func 50) #[.pointer (some ⟨fb + 2, 0, none⟩)] #[], .func (.func 51) #[.pointer (some ⟨fb + 2, 0, none⟩)] #[], .func (.func 52) #[.pointer (some ⟨fb + 2, 0, none⟩)] #[]] 108) (by have := HZ5.out; omega)).trans HC5.out
  have hfn := heap_alloc_new W5 (.cells #[.func (.func 48) #[.pointer (some ⟨fb + 2, 0, none⟩)] #[], .func (.func 49) #[.pointer (some ⟨fb + 2, 0, none⟩)] #[], .func (.func 50) #[.pointer (some ⟨fb + 2, 0, none⟩)] #[], .func (.func 51) #[.pointer (some ⟨fb + 2, 0, none⟩)] #[], .func (.func 52) #[.pointer (some ⟨fb + 2, 0, none⟩)] #[]] 108)
  have hmi6 := HMI5.out.of (heap_alloc_old W5 (.cells #[.func (.func 48) #[.pointer (some ⟨fb + 2, 0, none⟩)] #[], .func (.func 49) #[.pointer (some ⟨fb + 2, 0, none⟩)] #[], .func (.func 50) #[.pointer (some ⟨fb + 2, 0, none⟩)] #[], .func (.func 51) #[.pointer (some ⟨fb + 2, 0, none⟩)] #[], .func (.func 52) #[.pointer (some ⟨fb + 2, 0, none⟩)] #[]] 108) (by have := HZ5.out; omega))
  have hmv6 := HMV5.out.of (heap_alloc_old W5 (.cells #[.func (.func 48) #[.pointer (some ⟨fb + 2, 0, none⟩)] #[], .func (.func 49) #[.pointer (some ⟨fb + 2, 0, none⟩)] #[], .func (.func 50) #[.pointer (some ⟨fb + 2, 0, none⟩)] #[], .func (.func 51) #[.pointer (some ⟨fb + 2, 0, none⟩)] #[], .func (.func 52) #[.pointer (some ⟨fb + 2, 0, none⟩)] #[]] 108) (by have := HZ5.out; omega))
  obtain ⟨W6, hW6⟩ : ∃ x, W5.alloc (.cells #[.func (.func 48) #[.pointer (some ⟨fb + 2, 0, none⟩)] #[], .func (.func 49) #[.pointer (some ⟨fb + 2, 0, none⟩)] #[], .func (.func 50) #[.pointer (some ⟨fb + 2, 0, none⟩)] #[], .func (.func 51) #[.pointer (some ⟨fb + 2, 0, none⟩)] #[], .func (.func 52) #[.pointer (some ⟨fb + 2, 0, none⟩)] #[]] 108) = x := ⟨_, rfl⟩
  rw [hW6] at hb6 hz6 hc6 hfn hmi6 hmv6
  rw [HZ5.out] at hfn
  have hMC : MC E w W6 (fb + 2) fb (fb + 3) ⟨tb, .int .i64 k1, cn, .string (tx k3), .slice A4 l4 d4, .slice A5 l5 d5, .slice A6 l6 d6, .slice A7 l7 d7, mf, .string (tx m1), md, ms, ml, .slice B5 L.length e5, .slice B6 rows.length e6, .slice B7 frames.length e7, .slice none 0 0, [], fb, fb + 1⟩ L rows frames de dp :=
    { env := HE.out, good := hG.out, b6 := hb6, f1 := by have := HZF.out; omega, c1 := rfl, n1 := rfl, z6 := hz6, cb := rfl, fbE := rfl, it := hc6, mi := hmi6, mv := hmv6, pool := hpool.out, code := HL.out, mcS := ⟨_, _, rfl⟩, row := HR.out, frs := HM.out, ms := HMS.out, ml := HML.out, cn := HCN.out, own := HOWN.out, room := HROOM.out, ko := HKO.out, desc := HD.out, dl := hdl, ds := hds.out, fr := HFR.out, ri := HRI.out }
  have HMC := lhid hMC
  have HW6 := lhid hW6
  have HFN := lhid hfn
  have HB6 := lhid hb6
  have HZ6 := lhid hz6
  have hk0 : Calls Tryz.prog 48 #[.pointer (some ⟨fb + 2, 0, none⟩)] W6 fun e w' => e = .returned (.int .i64 bg) ∧ Below w.heap.size w w' ∧ w'.heap[fb + 3]? = W6.heap[fb + 3]? ∧ (bg = 0 → MS1 E w W6 (fb + 2) ⟨tb, .int .i64 k1, cn, .string (tx k3), .slice A4 l4 d4, .slice A5 l5 d5, .slice A6 l6 d6, .slice A7 l7 d7, mf, .string (tx m1), md, ms, ml, .slice B5 L.length e5, .slice B6 rows.length e6, .slice B7 frames.length e7, .slice none 0 0, [], fb, fb + 1⟩ L loc w') := by
    have := m_begin hMC
    dsimp only at this
    rw [HBG.out, HLOC.out] at this
    exact this
  have hk1 : ∀ wr : World, Below w.heap.size w wr → bg = 0 → MS1 E w W6 (fb + 2) ⟨tb, .int .i64 k1, cn, .string (tx k3), .slice A4 l4 d4, .slice A5 l5 d5, .slice A6 l6 d6, .slice A7 l7 d7, mf, .string (tx m1), md, ms, ml, .slice B5 L.length e5, .slice B6 rows.length e6, .slice B7 frames.length e7, .slice none 0 0, [], fb, fb + 1⟩ L loc wr → Calls Tryz.prog 49 #[.pointer (some ⟨fb + 2, 0, none⟩)] wr fun e w' => e = .returned (.int .i64 tk.1) ∧ Below w.heap.size w w' ∧ w'.heap[fb + 3]? = wr.heap[fb + 3]? ∧ (tk.1 = 0 → MS2 E w (fb + 2) fb (fb + 3) ⟨tb, .int .i64 k1, cn, .string (tx k3), .slice A4 l4 d4, .slice A5 l5 d5, .slice A6 l6 d6, .slice A7 l7 d7, mf, .string (tx m1), md, ms, ml, .slice B5 L.length e5, .slice B6 rows.length e6, .slice B7 frames.length e7, .slice none 0 0, [], fb, fb + 1⟩ L loc frames.length tk.2 w') := fun wr hb h0 hs => by
    have := m_take hMC hb (HBG.out.trans h0) (by rw [HLOC.out]; exact hs)
    dsimp only at this
    rw [HTK.out, HLOC.out] at this
    exact this
  have hk2 : ∀ wr : World, Below w.heap.size w wr → fb + 3 < wr.heap.size → bg = 0 → tk.1 = 0 → MS2 E w (fb + 2) fb (fb + 3) ⟨tb, .int .i64 k1, cn, .string (tx k3), .slice A4 l4 d4, .slice A5 l5 d5, .slice A6 l6 d6, .slice A7 l7 d7, mf, .string (tx m1), md, ms, ml, .slice B5 L.length e5, .slice B6 rows.length e6, .slice B7 frames.length e7, .slice none 0 0, [], fb, fb + 1⟩ L loc frames.length tk.2 wr → Calls Tryz.prog 50 #[.pointer (some ⟨fb + 2, 0, none⟩)] wr fun e w' => e = .returned (.int .i64 re) ∧ Below w.heap.size w w' ∧ w'.heap[fb + 3]? = wr.heap[fb + 3]? ∧ MS2 E w (fb + 2) fb (fb + 3) ⟨tb, .int .i64 k1, cn, .string (tx k3), .slice A4 l4 d4, .slice A5 l5 d5, .slice A6 l6 d6, .slice A7 l7 d7, mf, .string (tx m1), md, ms, ml, .slice B5 L.length e5, .slice B6 rows.length e6, .slice B7 frames.length e7, .slice none 0 0, [], fb, fb + 1⟩ L loc frames.length tk.2 w' := fun wr hb hl h0 h1 hs => by
    have := m_rows hMC hb hl (HBG.out.trans h0) (by dsimp only; rw [HTK.out]; exact h1) (loc := loc) (M := frames.length) (by dsimp only; rw [HTK.out]; exact hs)
    dsimp only at this
    rw [HTK.out, HRE.out] at this
    exact this
  have hk3 : ∀ wr : World, Below w.heap.size w wr → fb + 3 < wr.heap.size → bg = 0 → tk.1 = 0 → MS2 E w (fb + 2) fb (fb + 3) ⟨tb, .int .i64 k1, cn, .string (tx k3), .slice A4 l4 d4, .slice A5 l5 d5, .slice A6 l6 d6, .slice A7 l7 d7, mf, .string (tx m1), md, ms, ml, .slice B5 L.length e5, .slice B6 rows.length e6, .slice B7 frames.length e7, .slice none 0 0, [], fb, fb + 1⟩ L loc frames.length tk.2 wr → Calls Tryz.prog 51 #[.pointer (some ⟨fb + 2, 0, none⟩)] wr fun e w' => Below w.heap.size w w' ∧ w'.heap[fb + 3]? = wr.heap[fb + 3]? ∧ WkR E w (fb + 2) (fb + 3) wk e w' := fun wr hb hl h0 h1 hs => by
    have := m_walk hMC hb hl (HBG.out.trans h0) (by dsimp only; rw [HTK.out]; exact h1) (M := frames.length) (by dsimp only; rw [HTK.out, HLOC.out]; exact hs)
    dsimp only at this
    rw [HTK.out, HWK.out] at this
    exact this
  have HK0 := lhid hk0
  have HK1 := lhid hk1
  have HK2 := lhid hk2
  have HK3 := lhid hk3
  clear hk0 hk1 hk2 hk3
  clear hMC hW6 hfn hb6 hz6 hc6 hmi6 hmv6 hdl
  go_upto_region 2 with fail
  go_wp2_with fail
  rw [HW6.out, HZ5.out]
  go_loopw [25] (fun i wr => ∃ k : Nat, i = .int .i64 k ∧ k ≤ 5 ∧ Hid (wr.heap[fb + 3]? = W6.heap[fb + 3]?) ∧ Hid (Below w.heap.size w wr) ∧ Hid (MInv E w W6 (fb + 2) fb (fb + 3) ⟨tb, .int .i64 k1, cn, .string (tx k3), .slice A4 l4 d4, .slice A5 l5 d5, .slice A6 l6 d6, .slice A7 l7 d7, mf, .string (tx m1), md, ms, ml, .slice B5 L.length e5, .slice B6 rows.length e6, .slice B7 frames.length e7, .slice none 0 0, [], fb, fb + 1⟩ L loc frames.length bg tk re wk k wr)) (fun i _ => 5 - (intOf i).toNat)
  case atStart => exact ⟨0, rfl, Nat.zero_le _, lhid rfl, HB6, lhid (show MInv _ _ _ _ _ _ _ _ _ _ _ _ _ _ 0 W6 from rfl)⟩
  case round =>
    obtain ⟨k, rfl, hk, HFK, HBK, HI⟩ := hrel
    have hfk := HFK.out.trans HFN.out
    have hlt := heap_lt hfk
    have HLT := lhid hlt
    have f0 := heap_cell (i := 0) hfk rfl
    have f1 := heap_cell (i := 1) hfk rfl
    have f2 := heap_cell (i := 2) hfk rfl
    have f3 := heap_cell (i := 3) hfk rfl
    have f4 := heap_cell (i := 4) hfk rfl
    clear hfk hlt
    have hways : k = 0 ∨ k = 1 ∨ k = 2 ∨ k = 3 ∨ k = 4 ∨ k = 5 := by omega
    rcases hways with rfl | rfl | rfl | rfl | rfl | rfl
    · have hw6 : W6 = wr := HI.out.symm
      subst hw6
      clear HFK HI HBK
      go_wp2_with fail
      with_reducible refine (HK0.out).mono ?_
      rintro e w1 ⟨rfl, hb1, hf1, hok⟩
      by_cases h0 : bg = 0
      · have d0 : (bg != 0) = false := by rw [h0]; rfl
        have HNI : Hid (MInv E w W6 (fb + 2) fb (fb + 3) ⟨tb, .int .i64 k1, cn, .string (tx k3), .slice A4 l4 d4, .slice A5 l5 d5, .slice A6 l6 d6, .slice A7 l7 d7, mf, .string (tx m1), md, ms, ml, .slice B5 L.length e5, .slice B6 rows.length e6, .slice B7 frames.length e7, .slice none 0 0, [], fb, fb + 1⟩ L loc frames.length bg tk re wk 1 w1) := lhid ⟨h0, hok h0⟩
        have HF1 := lhid hf1
        have HB1 := lhid hb1
        clear h0 hb1 hf1 hok f0 f1 f2 f3 f4
        go_wp2_with fail
        go_roundw
        case rel => exact ⟨1, by go_num, by omega, HF1, HB1, HNI⟩
        case measure => simp [intOf]
      · have d0 : (bg != 0) = true := by rw [bne_iff_ne]; exact h0
        have HR : Hid (mt = .er bg) := lhid (HM1.out h0)
        have HB1 := lhid hb1
        clear h0 hb1 hf1 hok f0 f1 f2 f3 f4
        go_wp2_with fail
        go_ret2
        rw [HR.out]
        exact ⟨HB1.out, rfl⟩
    · obtain ⟨g0, hs⟩ := HI.out
      go_wp2_with fail
      with_reducible refine (HK1.out wr HBK.out g0 hs).mono ?_
      rintro e w1 ⟨rfl, hb1, hf1, hok⟩
      by_cases h0 : tk.1 = 0
      · have d0 : (tk.1 != 0) = false := by rw [h0]; rfl
        have HNI : Hid (MInv E w W6 (fb + 2) fb (fb + 3) ⟨tb, .int .i64 k1, cn, .string (tx k3), .slice A4 l4 d4, .slice A5 l5 d5, .slice A6 l6 d6, .slice A7 l7 d7, mf, .string (tx m1), md, ms, ml, .slice B5 L.length e5, .slice B6 rows.length e6, .slice B7 frames.length e7, .slice none 0 0, [], fb, fb + 1⟩ L loc frames.length bg tk re wk 2 w1) := lhid ⟨g0, h0, hok h0⟩
        have HF1 := lhid (hf1.trans HFK.out)
        have HB1 := lhid hb1
        clear h0 hb1 hf1 hok f0 f1 f2 f3 f4
        go_wp2_with fail
        go_roundw
        case rel => exact ⟨2, by go_num, by omega, HF1, HB1, HNI⟩
        case measure => simp [intOf]
      · have d0 : (tk.1 != 0) = true := by rw [bne_iff_ne]; exact h0
        have HR : Hid (mt = .er tk.1) := lhid (HM2.out g0 h0)
        have HB1 := lhid hb1
        clear h0 hb1 hf1 hok f0 f1 f2 f3 f4
        go_wp2_with fail
        go_ret2
        rw [HR.out]
        exact ⟨HB1.out, rfl⟩
    · obtain ⟨g0, g1, hs⟩ := HI.out
      go_wp2_with fail
      with_reducible refine (HK2.out wr HBK.out HLT.out g0 g1 hs).mono ?_
      rintro e w1 ⟨rfl, hb1, hf1, hok⟩
      by_cases h0 : re = 0
      · have d0 : (re != 0) = false := by rw [h0]; rfl
        have HNI : Hid (MInv E w W6 (fb + 2) fb (fb + 3) ⟨tb, .int .i64 k1, cn, .string (tx k3), .slice A4 l4 d4, .slice A5 l5 d5, .slice A6 l6 d6, .slice A7 l7 d7, mf, .string (tx m1), md, ms, ml, .slice B5 L.length e5, .slice B6 rows.length e6, .slice B7 frames.length e7, .slice none 0 0, [], fb, fb + 1⟩ L loc frames.length bg tk re wk 3 w1) := lhid ⟨g0, g1, h0, hok⟩
        have HF1 := lhid (hf1.trans HFK.out)
        have HB1 := lhid hb1
        clear h0 hb1 hf1 hok f0 f1 f2 f3 f4
        go_wp2_with fail
        go_roundw
        case rel => exact ⟨3, by go_num, by omega, HF1, HB1, HNI⟩
        case measure => simp [intOf]
      · have d0 : (re != 0) = true := by rw [bne_iff_ne]; exact h0
        have HR : Hid (mt = .er re) := lhid (HM3.out g0 g1 h0)
        have HB1 := lhid hb1
        clear h0 hb1 hf1 hok f0 f1 f2 f3 f4
        go_wp2_with fail
        go_ret2
        rw [HR.out]
        exact ⟨HB1.out, rfl⟩
    · obtain ⟨g0, g1, g2, hs⟩ := HI.out
      have HG := lhid (And.intro g0 (And.intro g1 g2))
      go_wp2_with fail
      with_reducible refine (HK3.out wr HBK.out HLT.out g0 g1 hs).mono ?_
      rintro e w1 ⟨hb1, hf1, hok⟩
      have HB1 := lhid hb1
      have HF1 := lhid (hf1.trans HFK.out)
      clear hb1 hf1 g0 g1 g2 hs f0 f1 f2 f3 f4
      cases wk with
      | er v =>
        obtain ⟨rfl, hv⟩ := hok
        have d0 : (v != 0) = true := by rw [bne_iff_ne]; exact hv
        have HR : Hid (mt = .er v) := lhid (HM4.out HG.out.1 HG.out.2.1 HG.out.2.2 v rfl)
        clear hv
        go_wp2_with fail
        go_ret2
        rw [HR.out]
        exact ⟨HB1.out, rfl⟩
      | ok kn l =>
        obtain ⟨rfl, hs⟩ := hok
        have HNI : Hid (MInv E w W6 (fb + 2) fb (fb + 3) ⟨tb, .int .i64 k1, cn, .string (tx k3), .slice A4 l4 d4, .slice A5 l5 d5, .slice A6 l6 d6, .slice A7 l7 d7, mf, .string (tx m1), md, ms, ml, .slice B5 L.length e5, .slice B6 rows.length e6, .slice B7 frames.length e7, .slice none 0 0, [], fb, fb + 1⟩ L loc frames.length bg tk re (.ok kn l) 4 w1) := lhid ⟨HG.out.1, HG.out.2.1, HG.out.2.2, kn, l, rfl, hs⟩
        clear hs
        go_wp2_with fail
        go_roundw
        case rel => exact ⟨4, by go_num, by omega, HF1, HB1, HNI⟩
        case measure => simp [intOf]
    · obtain ⟨g0, g1, g2, kn, l, hwk, hs⟩ := HI.out
      have HG := lhid (And.intro g0 (And.intro g1 (And.intro g2 hwk)))
      go_wp2_with fail
      with_reducible refine (m_end HBK.out HLT.out hs).mono ?_
      rintro e w1 ⟨rfl, hb1, hf1, hs1⟩
      have HB1 := lhid hb1
      have HF1 := lhid (hf1.trans HFK.out)
      have HS1 := lhid hs1
      clear hb1 hf1 hs1 g0 g1 g2 hs hwk f0 f1 f2 f3 f4
      cases kn with
      | true =>
        have HR : Hid (mt = .er 60) := lhid (by rw [HM5.out HG.out.1 HG.out.2.1 HG.out.2.2.1 true l HG.out.2.2.2]; rfl)
        rw [if_pos rfl]
        go_wp2_with fail
        go_ret2
        rw [HR.out]
        exact ⟨HB1.out, rfl⟩
      | false =>
        have HNI : Hid (MInv E w W6 (fb + 2) fb (fb + 3) ⟨tb, .int .i64 k1, cn, .string (tx k3), .slice A4 l4 d4, .slice A5 l5 d5, .slice A6 l6 d6, .slice A7 l7 d7, mf, .string (tx m1), md, ms, ml, .slice B5 L.length e5, .slice B6 rows.length e6, .slice B7 frames.length e7, .slice none 0 0, [], fb, fb + 1⟩ L loc frames.length bg tk re wk 5 w1) := lhid ⟨HG.out.1, HG.out.2.1, HG.out.2.2.1, l, HG.out.2.2.2, HS1.out⟩
        rw [if_neg (by decide)]
        go_wp2_with fail
        go_roundw
        case rel => exact ⟨5, by go_num, by omega, HF1, HB1, HNI⟩
        case measure => simp [intOf]
    · obtain ⟨g0, g1, g2, l, hwk, hs⟩ := HI.out
      obtain ⟨Z, F', N, s, st, D, q1, q2, q3, q4⟩ := hs
      have HR : Hid (mt = .ok l) := lhid (by rw [HM5.out g0 g1 g2 false l hwk]; rfl)
      obtain ⟨vl, vs, hc, _⟩ := q1.it
      have c24 := heap_cell (i := 24) hc rfl
      obtain ⟨vs', hvs, hrow, hvl⟩ := q3.it
      obtain ⟨B9, e9, rfl⟩ := own_shape hrow
      have Q3 := lhid q3
      clear hc q1 q2 q3 q4 g0 g1 g2 hwk hvs hrow hvl f0 f1 f2 f3 f4
      go_wp2_with fail
      go_ret2
      rw [HR.out]
      exact ⟨HBK.out, _, D, rfl, Q3.out⟩
end
end Go.Proofs.YtpdnonlelocfbaaGreatDoor
