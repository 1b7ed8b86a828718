/- Contract of the parser's class. Written by gen_file7.py. -/
import Derived.Test.YtgihfcimngogfaaGreatJFileListM
import Derived.Test.YtgihfcimngogfaaGreatM12
import Derived.BigRegion
import Derived.RegionTactic
namespace Go.Proofs.YtgihfcimngogfaaGreat
open Go.RowKit Go
set_option linter.unusedVariables false
structure Two (P R : Nat) (w w' : World) : Prop where
 os : w'.os = w.os
 tape : w'.tape = w.tape
 output : w'.output = w.output
 size : w.heap.size ≤ w'.heap.size
 block : ∀ k, k < w.heap.size → k ≠ R → k ≠ P → w'.heap[k]? = w.heap[k]?
theorem Two.refl (P R : Nat) (w : World) : Two P R w w := ⟨rfl, rfl, rfl, Nat.le_refl _, fun _ _ _ _ => rfl⟩
theorem Two.step {P R : Nat} {a b c : World} (h : Two P R a b) (k : Only R b c) : Two P R a c :=
 ⟨k.os.trans h.os, k.tape.trans h.tape, k.output.trans h.output, Nat.le_trans h.size k.size, fun i hi hr hp => (k.block i (Nat.lt_of_lt_of_le hi h.size) hr).trans (h.block i hi hr hp)⟩
theorem Two.alloc {P R : Nat} {a w : World} (h : Two P R a w) (o : Obj) : Two P R a (w.alloc o) := h.step ((Only.refl R w).alloc o)
theorem Two.drewN {P R : Nat} {a w : World} (h : Two P R a w) (n : Nat) : Two P R a (w.drewN n) := ⟨h.os, h.tape, h.output, h.size, h.block⟩
theorem Two.drew {P R : Nat} {a w : World} (h : Two P R a w) : Two P R a w.drew := ⟨h.os, h.tape, h.output, h.size, h.block⟩
theorem Two.setCell {P R : Nat} {a w : World} (h : Two P R a w) {p : Addr} (hp : (p.block = R ∨ p.block = P) ∨ a.heap.size ≤ p.block) (u : Value) : Two P R a (w.setCell p u) :=
 ⟨h.os, h.tape, h.output, by have := h.size; simpa [World.setCell] using this, fun k hk hr hq => by rw [Below.heap_setCell _ _ _ _ (by omega)]; exact h.block k hk hr hq⟩
theorem two_cells {P R b : Nat} {a : World} (hb : a.heap.size ≤ b) : ∀ (vs : List Value) (o : Nat) (w : World), Two P R a w → Two P R a (w.setCells b o vs)
 | [], _, _, h => h
 | v :: r, o, w, h => by
  rw [World.setCells]
  exact two_cells hb r (o + 1) _ (h.setCell (.inr hb) v)
theorem Two.keep {P R k : Nat} {a w : World} {o : Obj} (h : Two P R a w) (hk : a.heap[k]? = some o) (hr : k ≠ R) (hp : k ≠ P) : w.heap[k]? = some o := by
 rw [h.block k (heap_lt hk) hr hp]
 exact hk
theorem Psr.pg {w : World} {P R g cf : Nat} {L : List Con} (h : Psr w P R g L cf) : g ≠ P := by
 rintro rfl
 obtain ⟨c, h1, _⟩ := h.rows
 rw [h.blk] at h1
 injection h1 with h1
 injection h1 with _ h2 _
 exact absurd h2 (by decide)
theorem Rdy.setFlags {w : World} {P R g cf : Nat} {L : List Con} {s : Bs} (h : Rdy w P R g L cf s) (cf2 : Nat) (h2 : cf2 < 65536) : Rdy (w.setCell ⟨P, 2, none⟩ (.int .i64 cf2)) P R g L cf2 s :=
 ⟨⟨heap_set h.p.blk _, h.p.rows.other h.p.pg _, h.p.pr, h.p.gr, h.p.good, h.p.small, h2⟩, h.r.other (by exact fun e => h.p.pr e.symm) _⟩
def ClsV (g : Nat) (w : World) (c : Cls) (v : Value) : Prop := ∃ a b d, v = .agg #[.int .i64 c.flags, .string (tx c.name), .string (tx c.super), a, .slice (some ⟨g, 0, none⟩) c.pool.length c.pool.length, b, d] ∧ StrsO w a c.ifaces ∧ RowsAt w g 39 5 (c.pool.map conV) ∧ FldsO w b c.fields ∧ MetsO w d c.methods
def COut (P R g : Nat) (L : List Con) (p : Pr Cls) (w : World) (e : Ending) (w' : World) : Prop :=
 Two P R w w' ∧ match p with
 | .ok c r => ∃ v cf, e = .returned v ∧ ClsV g w' c v ∧ Rdy w' P R g L cf r
 | .er x => e = .panicked [pan x]
theorem cout_er {P R g : Nat} {L : List Con} {p : Pr Cls} {x : Nat} {w w' : World} (ho : Two P R w w') (hp : p = .er x) : COut P R g L p w (.panicked [pan x]) w' := by
 subst hp
 exact ⟨ho, rfl⟩
theorem cout_ok {P R g cf : Nat} {L : List Con} {p : Pr Cls} {c : Cls} {r : Bs} {v : Value} {w w' : World} (ho : Two P R w w') (hp : p = .ok c r) (hv : ClsV g w' c v) (hr : Rdy w' P R g L cf r) : COut P R g L p w (.returned v) w' := by
 subst hp
 exact ⟨ho, v, cf, rfl, hv, hr⟩
set_option maxHeartbeats 40000000 in
set_option maxRecDepth 100000 in
theorem class_any (P R g cf0 : Nat) (L : List Con) (s : Bs) (w : World) (h : Hid (Rdy w P R g L cf0 s)) :
  Calls Tryz.prog 58 #[.pointer (some ⟨P, 0, none⟩)] w (COut P R g L (behP L s) w) := by
 have HB := lhid ((Two.refl P R w).alloc (.cells #[.int .i64 0, .string ⟨#[]⟩, .string ⟨#[]⟩, .slice none 0 0, .slice none 0 0, .slice none 0 0, .slice none 0 0] 27))
 have H0 := lhid (h.out.alloc (.cells #[.int .i64 0, .string ⟨#[]⟩, .string ⟨#[]⟩, .slice none 0 0, .slice none 0 0, .slice none 0 0, .slice none 0 0] 27))
 have hlts := h.out.lts
 have HX0 := lhid (heap_alloc_new w (.cells #[.int .i64 0, .string ⟨#[]⟩, .string ⟨#[]⟩, .slice none 0 0, .slice none 0 0, .slice none 0 0, .slice none 0 0] 27))
 have HXN : Hid (w.heap.size ≠ R) := lhid (by omega)
 have HXC : Hid (P < w.heap.size ∧ R < w.heap.size ∧ g < w.heap.size) := lhid (by omega)
 clear hlts
 have hmf : ∀ (fn : Fn) (first cap : Array Value) (w : World), (Instr.makeFunc fn first cap).run Tryz.prog w = .ok (.func fn first cap) w := fun _ _ _ _ => rfl
 go_enter Tryz.func58, Tryz.ntmps58
 have HR1 := lhid H0.out
 go_wp2_with fail
 with_reducible refine (someFlags_k P R g cf0 L s 1536 1536 (by omega) _ HR1 (lhid rfl)).mono ?_
 rintro e w1 ho
 have HO1 := lhid (HB.out.step ho.1)
 have HX1 := lhid (Only.keep ho.1 HX0.out HXN.out)
 cases hp : flgP 1536 s with
 | er x =>
  have hx := ho.er hp
  have HP := lhid hp
  clear ho hp
  obtain rfl := hx
  go_wp2_with fail
  exact ⟨rfl, cout_er HO1.out (by have hp := HP.out; simp only [behP, Pr.then, hp])⟩
 | ok cf r =>
  have hx := ho.ok hp
  have HP1 := lhid hp
  clear ho hp
  obtain ⟨v, rfl, rfl, hr⟩ := hx
  have H1 := lhid hr
  clear hr
  have hcf := (flgP_16 HP1.out).1
  have c2 := H1.out.p.c2
  have z2 := H1.out.p.fz 2
  have H1s : Hid (Rdy (w1.setCell ⟨P, 2, none⟩ (.int .i64 cf)) P R g L cf r) := lhid (H1.out.setFlags cf hcf)
  have HX1s := lhid ((Below.heap_setCell w1 ⟨P, 2, none⟩ (.int .i64 cf) _ (Nat.ne_of_gt HXC.out.1)).trans HX1.out)
  have HO1s := lhid (HO1.out.setCell (p := ⟨P, 2, none⟩) (.inl (.inr rfl)) (.int .i64 cf))
  have d2 := H1s.out.p.c2
  have d1 := H1s.out.p.c1
  have hsz := H1s.out.p.lt
  by_cases h5 : cf = 512
  ·have t5 : ((cf : Int) == 512) = true := by rw [h5]; rfl
   have HF5 := lhid h5
   clear h5
   go_wp2_with fail
   with_reducible refine (refuse_yes 22 _).mono ?_
   rintro e wz ⟨rfl, rfl⟩
   go_wp2_with fail
   exact ⟨rfl, cout_er HO1s.out (by simp only [behP, Pr.then, HP1.out]; rw [if_pos HF5.out])⟩
  ·have t5 : ((cf : Int) == 512) = false := by rw [beq_eq_false_iff_ne]; omega
   have HF5 := lhid h5
   clear h5
   go_wp2_with fail
   with_reducible refine (refuse_no 22 _).mono ?_
   rintro e wz ⟨rfl, rfl⟩
   go_wp2_with fail
   have e1 := (H1s.out.alloc (.cells #[.int .i64 0, .string ⟨#[]⟩, .string ⟨#[]⟩, .slice none 0 0, .slice none 0 0, .slice none 0 0, .slice none 0 0] 27)).p.c1
   have e2 := (H1s.out.alloc (.cells #[.int .i64 0, .string ⟨#[]⟩, .string ⟨#[]⟩, .slice none 0 0, .slice none 0 0, .slice none 0 0, .slice none 0 0] 27)).p.c2
   go_region
   have hlts := H1.out.lts
   have hx1 := heap_lt HX1.out
   have hws : (w1.setCell ⟨P, 2, none⟩ (.int .i64 cf)).heap.size = w1.heap.size := by simp
   have hy := heap_alloc_new (w1.setCell ⟨P, 2, none⟩ (.int .i64 cf)) (.cells #[.int .i64 cf, .string ⟨#[]⟩, .string ⟨#[]⟩, .slice none 0 0, .slice (some ⟨g, 0, none⟩) L.length L.length, .slice none 0 0, .slice none 0 0] 27)
   rw [hws] at hy
   have HYN : Hid (w1.heap.size ≠ R) := lhid (by omega)
   have HYC : Hid (P < w1.heap.size ∧ R < w1.heap.size ∧ g < w1.heap.size) := lhid hlts
   have HYL : Hid (w.heap.size ≤ w1.heap.size) := lhid (by omega)
   have HXHYNE : Hid (w.heap.size ≠ w1.heap.size) := lhid (by omega)
   have HYa : Hid ((((w1.setCell ⟨P, 2, none⟩ (.int .i64 cf)).alloc (.cells #[.int .i64 cf, .string ⟨#[]⟩, .string ⟨#[]⟩, .slice none 0 0, .slice (some ⟨g, 0, none⟩) L.length L.length, .slice none 0 0, .slice none 0 0] 27)).drew).heap[w1.heap.size]? = some (.cells #[.int .i64 cf, .string ⟨#[]⟩, .string ⟨#[]⟩, .slice none 0 0, .slice (some ⟨g, 0, none⟩) L.length L.length, .slice none 0 0, .slice none 0 0] 27 (0, 0))) := lhid hy
   have HXa : Hid ((((w1.setCell ⟨P, 2, none⟩ (.int .i64 cf)).alloc (.cells #[.int .i64 cf, .string ⟨#[]⟩, .string ⟨#[]⟩, .slice none 0 0, .slice (some ⟨g, 0, none⟩) L.length L.length, .slice none 0 0, .slice none 0 0] 27)).drew).heap[w.heap.size]? = some (.cells #[.int .i64 0, .string ⟨#[]⟩, .string ⟨#[]⟩, .slice none 0 0, .slice none 0 0, .slice none 0 0, .slice none 0 0] 27 (0, 0))) := lhid ((Below.heap_alloc (w1.setCell ⟨P, 2, none⟩ (.int .i64 cf)) (.cells #[.int .i64 cf, .string ⟨#[]⟩, .string ⟨#[]⟩, .slice none 0 0, .slice (some ⟨g, 0, none⟩) L.length L.length, .slice none 0 0, .slice none 0 0] 27) _ (by rw [hws]; exact hx1)).trans HX1s.out)
   have HOa : Hid (Two P R w (((w1.setCell ⟨P, 2, none⟩ (.int .i64 cf)).alloc (.cells #[.int .i64 cf, .string ⟨#[]⟩, .string ⟨#[]⟩, .slice none 0 0, .slice (some ⟨g, 0, none⟩) L.length L.length, .slice none 0 0, .slice none 0 0] 27)).drew)) := lhid ((HO1s.out.alloc (.cells #[.int .i64 cf, .string ⟨#[]⟩, .string ⟨#[]⟩, .slice none 0 0, .slice (some ⟨g, 0, none⟩) L.length L.length, .slice none 0 0, .slice none 0 0] 27)).drew)
   have HRa : Hid (Rdy (((w1.setCell ⟨P, 2, none⟩ (.int .i64 cf)).alloc (.cells #[.int .i64 cf, .string ⟨#[]⟩, .string ⟨#[]⟩, .slice none 0 0, .slice (some ⟨g, 0, none⟩) L.length L.length, .slice none 0 0, .slice none 0 0] 27)).drew) P R g L cf r) := lhid ((H1s.out.alloc (.cells #[.int .i64 cf, .string ⟨#[]⟩, .string ⟨#[]⟩, .slice none 0 0, .slice (some ⟨g, 0, none⟩) L.length L.length, .slice none 0 0, .slice none 0 0] 27)).drew)
   clear hlts hx1 hws hy e1 e2 d1 d2 hsz c2 z2
   generalize ((w1.setCell ⟨P, 2, none⟩ (.int .i64 cf)).alloc (.cells #[.int .i64 cf, .string ⟨#[]⟩, .string ⟨#[]⟩, .slice none 0 0, .slice (some ⟨g, 0, none⟩) L.length L.length, .slice none 0 0, .slice none 0 0] 27)).drew = W2 at *
   generalize w1.heap.size = cb at *
   have HR2 := lhid HRa.out
   go_wp2_with fail
   with_reducible refine (className_any P R g cf L r _ HR2).mono ?_
   rintro e w2 ho
   have HO2 := lhid (HOa.out.step ho.1)
   have HX2 := lhid (Only.keep ho.1 HXa.out HXN.out)
   have HY2 := lhid (Only.keep ho.1 HYa.out HYN.out)
   cases hp : clsP L r with
   | er x =>
    have hx := ho.er hp
    have HP := lhid hp
    clear ho hp
    obtain rfl := hx
    go_wp2_with fail
    exact ⟨rfl, cout_er HO2.out (by have hp := HP.out; simp only [behP, Pr.then, HP1.out, if_neg HF5.out, hp])⟩
   | ok nm r2 =>
    have hx := ho.ok hp
    have HP2 := lhid hp
    clear ho hp
    obtain ⟨v, rfl, rfl, hr⟩ := hx
    have H2 := lhid hr
    clear hr
    have qHY1 := heap_cell (i := 1) HY2.out rfl
    have zHY1 := heap_thaw HY2.out 1
    have HY2s1 : Hid ((w2.setCell ⟨cb, 1, none⟩ (.string (tx nm))).heap[cb]? = some (.cells #[.int .i64 cf, .string (tx nm), .string ⟨#[]⟩, .slice none 0 0, .slice (some ⟨g, 0, none⟩) L.length L.length, .slice none 0 0, .slice none 0 0] 27 (0, 0))) := lhid (heap_set HY2.out _)
    have HX2s1 : Hid ((w2.setCell ⟨cb, 1, none⟩ (.string (tx nm))).heap[w.heap.size]? = some (.cells #[.int .i64 0, .string ⟨#[]⟩, .string ⟨#[]⟩, .slice none 0 0, .slice none 0 0, .slice none 0 0, .slice none 0 0] 27 (0, 0))) := lhid ((Below.heap_setCell _ _ _ _ HXHYNE.out).trans HX2.out)
    have HR3 := lhid (H2.out.cell HYC.out 1 (.string (tx nm)))
    go_wp2_with fail
    with_reducible refine (className_any P R g cf L r2 _ HR3).mono ?_
    rintro e w3 ho
    have HO3 := lhid ((HO2.out.setCell (p := ⟨cb, 1, none⟩) (.inr HYL.out) (.string (tx nm))).step ho.1)
    have HX3 := lhid (Only.keep ho.1 HX2s1.out HXN.out)
    have HY3 := lhid (Only.keep ho.1 HY2s1.out HYN.out)
    cases hp : clsP L r2 with
    | er x =>
     have hx := ho.er hp
     have HP := lhid hp
     clear ho hp
     obtain rfl := hx
     go_wp2_with fail
     exact ⟨rfl, cout_er HO3.out (by have hp := HP.out; simp only [behP, Pr.then, HP1.out, if_neg HF5.out, HP2.out, hp])⟩
    | ok sp r3 =>
     have hx := ho.ok hp
     have HP3 := lhid hp
     clear ho hp
     obtain ⟨v, rfl, rfl, hr⟩ := hx
     have H3 := lhid hr
     clear hr
     have qHY2 := heap_cell (i := 2) HY3.out rfl
     have zHY2 := heap_thaw HY3.out 2
     have HY3s2 : Hid ((w3.setCell ⟨cb, 2, none⟩ (.string (tx sp))).heap[cb]? = some (.cells #[.int .i64 cf, .string (tx nm), .string (tx sp), .slice none 0 0, .slice (some ⟨g, 0, none⟩) L.length L.length, .slice none 0 0, .slice none 0 0] 27 (0, 0))) := lhid (heap_set HY3.out _)
     have HX3s2 : Hid ((w3.setCell ⟨cb, 2, none⟩ (.string (tx sp))).heap[w.heap.size]? = some (.cells #[.int .i64 0, .string ⟨#[]⟩, .string ⟨#[]⟩, .slice none 0 0, .slice none 0 0, .slice none 0 0, .slice none 0 0] 27 (0, 0))) := lhid ((Below.heap_setCell _ _ _ _ HXHYNE.out).trans HX3.out)
     have HR4 := lhid (H3.out.cell HYC.out 2 (.string (tx sp)))
     go_wp2_with fail
     with_reducible refine (count_k P R g cf L r3 2 8 2 8 _ HR4 (by omega) (by omega) (lhid rfl) (lhid rfl)).mono ?_
     rintro e w4 ho
     have HO4 := lhid ((HO3.out.setCell (p := ⟨cb, 2, none⟩) (.inr HYL.out) (.string (tx sp))).step ho.1)
     have HX4 := lhid (Only.keep ho.1 HX3s2.out HXN.out)
     have HY4 := lhid (Only.keep ho.1 HY3s2.out HYN.out)
     cases hp : cntP 2 8 r3 with
     | er x =>
      have hx := ho.er hp
      have HP := lhid hp
      clear ho hp
      obtain rfl := hx
      go_wp2_with fail
      exact ⟨rfl, cout_er HO4.out (by have hp := HP.out; simp only [behP, Pr.then, HP1.out, if_neg HF5.out, HP2.out, HP3.out, hp])⟩
     | ok n1 r4 =>
      have hx := ho.ok hp
      have HP4 := lhid hp
      clear ho hp
      obtain ⟨v, rfl, rfl, hr⟩ := hx
      have H4 := lhid hr
      clear hr
      have hle4 := cntP_le HP4.out
      have HR5 := lhid H4.out
      go_wp2_with fail
      with_reducible refine (listC_any P R g cf L r4 n1 _ HR5 (by omega)).mono ?_
      rintro e w5 ho
      have HO5 := lhid (HO4.out.step ho.1)
      have HX5 := lhid (Only.keep ho.1 HX4.out HXN.out)
      have HY5 := lhid (Only.keep ho.1 HY4.out HYN.out)
      cases hp : manyP (clsP L) n1 r4 [] with
      | er x =>
       have hx := ho.er hp
       have HP := lhid hp
       clear ho hp
       obtain rfl := hx
       go_wp2_with fail
       exact ⟨rfl, cout_er HO5.out (by have hp := HP.out; simp only [behP, Pr.then, HP1.out, if_neg HF5.out, HP2.out, HP3.out, HP4.out, hp])⟩
      | ok is r5 =>
       have hx := ho.ok hp
       have HP5 := lhid hp
       clear ho hp
       obtain ⟨v, rfl, hv1, hr⟩ := hx
       have H5 := lhid hr
       clear hr
       obtain ⟨A1, c1, rfl⟩ := slO_shape hv1
       have HV1_5 := lhid hv1
       clear hv1
       have qHY3 := heap_cell (i := 3) HY5.out rfl
       have zHY3 := heap_thaw HY5.out 3
       have HY5s3 : Hid ((w5.setCell ⟨cb, 3, none⟩ (.slice A1 is.length c1)).heap[cb]? = some (.cells #[.int .i64 cf, .string (tx nm), .string (tx sp), .slice A1 is.length c1, .slice (some ⟨g, 0, none⟩) L.length L.length, .slice none 0 0, .slice none 0 0] 27 (0, 0))) := lhid (heap_set HY5.out _)
       have HX5s3 : Hid ((w5.setCell ⟨cb, 3, none⟩ (.slice A1 is.length c1)).heap[w.heap.size]? = some (.cells #[.int .i64 0, .string ⟨#[]⟩, .string ⟨#[]⟩, .slice none 0 0, .slice none 0 0, .slice none 0 0, .slice none 0 0] 27 (0, 0))) := lhid ((Below.heap_setCell _ _ _ _ HXHYNE.out).trans HX5.out)
       have HV1_5s3 := lhid (strs_set HV1_5.out ⟨_, _, HY5.out⟩ (by decide) 3 (.slice A1 is.length c1))
       have HR6 := lhid (H5.out.cell HYC.out 3 (.slice A1 is.length c1))
       go_wp2_with fail
       with_reducible refine (count_k P R g cf L r5 2 60 2 60 _ HR6 (by omega) (by omega) (lhid rfl) (lhid rfl)).mono ?_
       rintro e w6 ho
       have HO6 := lhid ((HO5.out.setCell (p := ⟨cb, 3, none⟩) (.inr HYL.out) (.slice A1 is.length c1)).step ho.1)
       have HX6 := lhid (Only.keep ho.1 HX5s3.out HXN.out)
       have HY6 := lhid (Only.keep ho.1 HY5s3.out HYN.out)
       have HV1_6 := lhid (strs_rdr HV1_5s3.out HR6.out.r ho.1)
       cases hp : cntP 2 60 r5 with
       | er x =>
        have hx := ho.er hp
        have HP := lhid hp
        clear ho hp
        obtain rfl := hx
        go_wp2_with fail
        exact ⟨rfl, cout_er HO6.out (by have hp := HP.out; simp only [behP, Pr.then, HP1.out, if_neg HF5.out, HP2.out, HP3.out, HP4.out, HP5.out, hp])⟩
       | ok n2 r6 =>
        have hx := ho.ok hp
        have HP6 := lhid hp
        clear ho hp
        obtain ⟨v, rfl, rfl, hr⟩ := hx
        have H6 := lhid hr
        clear hr
        have hle6 := cntP_le HP6.out
        have HR7 := lhid H6.out
        go_wp2_with fail
        with_reducible refine (listG_any P R g cf L r6 n2 _ HR7 (by omega)).mono ?_
        rintro e w7 ho
        have HO7 := lhid (HO6.out.step ho.1)
        have HX7 := lhid (Only.keep ho.1 HX6.out HXN.out)
        have HY7 := lhid (Only.keep ho.1 HY6.out HYN.out)
        have HV1_7 := lhid (strs_rdr HV1_6.out HR7.out.r ho.1)
        cases hp : manyP (fldP L cf) n2 r6 [] with
        | er x =>
         have hx := ho.er hp
         have HP := lhid hp
         clear ho hp
         obtain rfl := hx
         go_wp2_with fail
         exact ⟨rfl, cout_er HO7.out (by have hp := HP.out; simp only [behP, Pr.then, HP1.out, if_neg HF5.out, HP2.out, HP3.out, HP4.out, HP5.out, HP6.out, hp])⟩
        | ok fs r7 =>
         have hx := ho.ok hp
         have HP7 := lhid hp
         clear ho hp
         obtain ⟨v, rfl, hv2, hr⟩ := hx
         have H7 := lhid hr
         clear hr
         obtain ⟨A2, c2, rfl⟩ := slO_shape hv2
         have HV2_7 := lhid hv2
         clear hv2
         have qHY5 := heap_cell (i := 5) HY7.out rfl
         have zHY5 := heap_thaw HY7.out 5
         have HY7s5 : Hid ((w7.setCell ⟨cb, 5, none⟩ (.slice A2 fs.length c2)).heap[cb]? = some (.cells #[.int .i64 cf, .string (tx nm), .string (tx sp), .slice A1 is.length c1, .slice (some ⟨g, 0, none⟩) L.length L.length, .slice A2 fs.length c2, .slice none 0 0] 27 (0, 0))) := lhid (heap_set HY7.out _)
         have HX7s5 : Hid ((w7.setCell ⟨cb, 5, none⟩ (.slice A2 fs.length c2)).heap[w.heap.size]? = some (.cells #[.int .i64 0, .string ⟨#[]⟩, .string ⟨#[]⟩, .slice none 0 0, .slice none 0 0, .slice none 0 0, .slice none 0 0] 27 (0, 0))) := lhid ((Below.heap_setCell _ _ _ _ HXHYNE.out).trans HX7.out)
         have HV1_7s5 := lhid (strs_set HV1_7.out ⟨_, _, HY7.out⟩ (by decide) 5 (.slice A2 fs.length c2))
         have HV2_7s5 := lhid (flds_set HV2_7.out ⟨_, _, HY7.out⟩ (by decide) 5 (.slice A2 fs.length c2))
         have HR8 := lhid (H7.out.cell HYC.out 5 (.slice A2 fs.length c2))
         go_wp2_with fail
         with_reducible refine (count_k P R g cf L r7 2 60 2 60 _ HR8 (by omega) (by omega) (lhid rfl) (lhid rfl)).mono ?_
         rintro e w8 ho
         have HO8 := lhid ((HO7.out.setCell (p := ⟨cb, 5, none⟩) (.inr HYL.out) (.slice A2 fs.length c2)).step ho.1)
         have HX8 := lhid (Only.keep ho.1 HX7s5.out HXN.out)
         have HY8 := lhid (Only.keep ho.1 HY7s5.out HYN.out)
         have HV1_8 := lhid (strs_rdr HV1_7s5.out HR8.out.r ho.1)
         have HV2_8 := lhid (flds_rdr HV2_7s5.out HR8.out.r ho.1)
         cases hp : cntP 2 60 r7 with
         | er x =>
          have hx := ho.er hp
          have HP := lhid hp
          clear ho hp
          obtain rfl := hx
          go_wp2_with fail
          exact ⟨rfl, cout_er HO8.out (by have hp := HP.out; simp only [behP, Pr.then, HP1.out, if_neg HF5.out, HP2.out, HP3.out, HP4.out, HP5.out, HP6.out, HP7.out, hp])⟩
         | ok n3 r8 =>
          have hx := ho.ok hp
          have HP8 := lhid hp
          clear ho hp
          obtain ⟨v, rfl, rfl, hr⟩ := hx
          have H8 := lhid hr
          clear hr
          have hle8 := cntP_le HP8.out
          have HR9 := lhid H8.out
          go_wp2_with fail
          with_reducible refine (listM_any P R g cf L r8 n3 _ HR9 (by omega)).mono ?_
          rintro e w9 ho
          have HO9 := lhid (HO8.out.step ho.1)
          have HX9 := lhid (Only.keep ho.1 HX8.out HXN.out)
          have HY9 := lhid (Only.keep ho.1 HY8.out HYN.out)
          have HV1_9 := lhid (strs_rdr HV1_8.out HR9.out.r ho.1)
          have HV2_9 := lhid (flds_rdr HV2_8.out HR9.out.r ho.1)
          cases hp : manyP (metP L cf) n3 r8 [] with
          | er x =>
           have hx := ho.er hp
           have HP := lhid hp
           clear ho hp
           obtain rfl := hx
           go_wp2_with fail
           exact ⟨rfl, cout_er HO9.out (by have hp := HP.out; simp only [behP, Pr.then, HP1.out, if_neg HF5.out, HP2.out, HP3.out, HP4.out, HP5.out, HP6.out, HP7.out, HP8.out, hp])⟩
          | ok ms r9 =>
           have hx := ho.ok hp
           have HP9 := lhid hp
           clear ho hp
           obtain ⟨v, rfl, hv3, hr⟩ := hx
           have H9 := lhid hr
           clear hr
           obtain ⟨A3, c3, rfl⟩ := slO_shape hv3
           have HV3_9 := lhid hv3
           clear hv3
           have qHY6 := heap_cell (i := 6) HY9.out rfl
           have zHY6 := heap_thaw HY9.out 6
           have HY9s6 : Hid ((w9.setCell ⟨cb, 6, none⟩ (.slice A3 ms.length c3)).heap[cb]? = some (.cells #[.int .i64 cf, .string (tx nm), .string (tx sp), .slice A1 is.length c1, .slice (some ⟨g, 0, none⟩) L.length L.length, .slice A2 fs.length c2, .slice A3 ms.length c3] 27 (0, 0))) := lhid (heap_set HY9.out _)
           have HX9s6 : Hid ((w9.setCell ⟨cb, 6, none⟩ (.slice A3 ms.length c3)).heap[w.heap.size]? = some (.cells #[.int .i64 0, .string ⟨#[]⟩, .string ⟨#[]⟩, .slice none 0 0, .slice none 0 0, .slice none 0 0, .slice none 0 0] 27 (0, 0))) := lhid ((Below.heap_setCell _ _ _ _ HXHYNE.out).trans HX9.out)
           have HV1_9s6 := lhid (strs_set HV1_9.out ⟨_, _, HY9.out⟩ (by decide) 6 (.slice A3 ms.length c3))
           have HV2_9s6 := lhid (flds_set HV2_9.out ⟨_, _, HY9.out⟩ (by decide) 6 (.slice A3 ms.length c3))
           have HV3_9s6 := lhid (mets_set HV3_9.out ⟨_, _, HY9.out⟩ (by decide) 6 (.slice A3 ms.length c3))
           have q0 := heap_cell (i := 0) HY9s6.out rfl
           have zq0 := heap_thaw HY9s6.out 0
           have q1 := heap_cell (i := 1) HY9s6.out rfl
           have zq1 := heap_thaw HY9s6.out 1
           have q2 := heap_cell (i := 2) HY9s6.out rfl
           have zq2 := heap_thaw HY9s6.out 2
           have q3 := heap_cell (i := 3) HY9s6.out rfl
           have zq3 := heap_thaw HY9s6.out 3
           have q4 := heap_cell (i := 4) HY9s6.out rfl
           have zq4 := heap_thaw HY9s6.out 4
           have q5 := heap_cell (i := 5) HY9s6.out rfl
           have zq5 := heap_thaw HY9s6.out 5
           have q6 := heap_cell (i := 6) HY9s6.out rfl
           have zq6 := heap_thaw HY9s6.out 6
           have p0 := heap_cell (i := 0) HX9s6.out rfl
           have zp0 := heap_thaw HX9s6.out 0
           have p1 := heap_cell (i := 1) HX9s6.out rfl
           have zp1 := heap_thaw HX9s6.out 1
           have p2 := heap_cell (i := 2) HX9s6.out rfl
           have zp2 := heap_thaw HX9s6.out 2
           have p3 := heap_cell (i := 3) HX9s6.out rfl
           have zp3 := heap_thaw HX9s6.out 3
           have p4 := heap_cell (i := 4) HX9s6.out rfl
           have zp4 := heap_thaw HX9s6.out 4
           have p5 := heap_cell (i := 5) HX9s6.out rfl
           have zp5 := heap_thaw HX9s6.out 5
           have p6 := heap_cell (i := 6) HX9s6.out rfl
           have zp6 := heap_thaw HX9s6.out 6
           go_wp2_with fail
           refine bodyPost_ret (v := .agg #[.int .i64 cf, .string (tx nm), .string (tx sp), .slice A1 is.length c1, .slice (some ⟨g, 0, none⟩) L.length L.length, .slice A2 fs.length c2, .slice A3 ms.length c3]) (by simp [results, Tryz.results58, go_sem, p0, p1, p2, p3, p4, p5, p6]) rfl ?_
           have hr := rdy_cells HXC.out [.int .i64 cf, .string (tx nm), .string (tx sp), .slice A1 is.length c1, .slice (some ⟨g, 0, none⟩) L.length L.length, .slice A2 fs.length c2, .slice A3 ms.length c3] 0 _ (H9.out.cell HYC.out 6 (.slice A3 ms.length c3))
           exact cout_ok (c := (⟨cf, nm, sp, is, L, fs, ms⟩ : Cls)) (r := r9) (two_cells (Nat.le_refl _) [.int .i64 cf, .string (tx nm), .string (tx sp), .slice A1 is.length c1, .slice (some ⟨g, 0, none⟩) L.length L.length, .slice A2 fs.length c2, .slice A3 ms.length c3] 0 _ (HO9.out.setCell (p := ⟨cb, 6, none⟩) (.inr HYL.out) (.slice A3 ms.length c3))) (by simp only [behP, Pr.then, HP1.out, if_neg HF5.out, HP2.out, HP3.out, HP4.out, HP5.out, HP6.out, HP7.out, HP8.out, HP9.out]) ⟨_, _, _, rfl, (strs_cells HV1_9s6.out ⟨_, _, HX9s6.out⟩ (by decide) [.int .i64 cf, .string (tx nm), .string (tx sp), .slice A1 is.length c1, .slice (some ⟨g, 0, none⟩) L.length L.length, .slice A2 fs.length c2, .slice A3 ms.length c3] 0), hr.p.rows, (flds_cells HV2_9s6.out ⟨_, _, HX9s6.out⟩ (by decide) [.int .i64 cf, .string (tx nm), .string (tx sp), .slice A1 is.length c1, .slice (some ⟨g, 0, none⟩) L.length L.length, .slice A2 fs.length c2, .slice A3 ms.length c3] 0), (mets_cells HV3_9s6.out ⟨_, _, HX9s6.out⟩ (by decide) [.int .i64 cf, .string (tx nm), .string (tx sp), .slice A1 is.length c1, .slice (some ⟨g, 0, none⟩) L.length L.length, .slice A2 fs.length c2, .slice A3 ms.length c3] 0)⟩ hr
end Go.Proofs.YtgihfcimngogfaaGreat
