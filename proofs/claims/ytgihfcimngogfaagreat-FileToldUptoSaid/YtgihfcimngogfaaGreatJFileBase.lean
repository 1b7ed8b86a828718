/- Contracts of what the parser reads by: refuse, refuseCutOff, number, count. -/
import Derived.Test.YtgihfcimngogfaaGreatM1
import Derived.Test.YtgihfcimngogfaaGreatJPoolTake
import Derived.Test.YtgihfcimngogfaaGreatM2
import Derived.Test.YtgihfcimngogfaaGreatM9
namespace Go.Proofs.YtgihfcimngogfaaGreat
open Go.RowKit Go
set_option linter.unusedVariables false
abbrev pan (x : Int) : PanicEntry := { v := .iface 32 (.int .i64 x), recovered := false }
set_option maxHeartbeats 1000000 in
set_option maxRecDepth 100000 in
theorem refuse_no (x : Int) (w : World) :
  Calls Tryz.prog 55 #[.bool false, .int .i64 x] w fun e w' => e = .returned (.tuple #[]) ∧ w = w' := by
 go_enter Tryz.func55, Tryz.ntmps55
 go_wp2_with fail
 go_end0
 exact ⟨rfl, rfl⟩
set_option maxHeartbeats 1000000 in
set_option maxRecDepth 100000 in
theorem refuse_yes (x : Int) (w : World) :
  Calls Tryz.prog 55 #[.bool true, .int .i64 x] w fun e w' => e = .panicked [pan x] ∧ w = w' := by
 go_enter Tryz.func55, Tryz.ntmps55
 go_wp2_with fail
 exact ⟨rfl, rfl, rfl⟩
structure Psr (w : World) (P R g : Nat) (L : List Con) (cf : Nat) : Prop where
 blk : w.heap[P]? = some (.cells #[.pointer (some ⟨R, 0, none⟩), .slice (some ⟨g, 0, none⟩) L.length L.length, .int .i64 cf] 68 (0, 0))
 rows : RowsAt w g 39 5 (L.map conV)
 pr : P ≠ R
 gr : g ≠ R
 good : ∀ c, c ∈ L → GoodC c
 small : L.length ≤ 1000
 flag : cf < 65536
theorem Psr.c0 {w : World} {P R g cf : Nat} {L : List Con} (h : Psr w P R g L cf) : w.cell? ⟨P, 0, none⟩ = some (.pointer (some ⟨R, 0, none⟩)) := heap_cell h.blk rfl
theorem Psr.c1 {w : World} {P R g cf : Nat} {L : List Con} (h : Psr w P R g L cf) : w.cell? ⟨P, 1, none⟩ = some (.slice (some ⟨g, 0, none⟩) L.length L.length) := heap_cell h.blk rfl
theorem Psr.c2 {w : World} {P R g cf : Nat} {L : List Con} (h : Psr w P R g L cf) : w.cell? ⟨P, 2, none⟩ = some (.int .i64 cf) := heap_cell h.blk rfl
theorem Psr.fz {w : World} {P R g cf : Nat} {L : List Con} (h : Psr w P R g L cf) (i : Nat) : w.frozen? ⟨P, i, none⟩ = false := heap_thaw h.blk i
theorem Psr.lt {w : World} {P R g cf : Nat} {L : List Con} (h : Psr w P R g L cf) : P < w.heap.size := heap_lt h.blk
theorem Psr.keep {w w' : World} {P R g cf : Nat} {L : List Con} (h : Psr w P R g L cf) (ho : Only R w w') : Psr w' P R g L cf :=
 ⟨ho.keep h.blk h.pr, h.rows.keep ho h.gr, h.pr, h.gr, h.good, h.small, h.flag⟩
theorem Psr.drewN {w : World} {P R g cf : Nat} {L : List Con} (h : Psr w P R g L cf) (n : Nat) : Psr (w.drewN n) P R g L cf := ⟨h.blk, h.rows, h.pr, h.gr, h.good, h.small, h.flag⟩
theorem Psr.alloc {w : World} {P R g cf : Nat} {L : List Con} (h : Psr w P R g L cf) (o : Obj) : Psr (w.alloc o) P R g L cf :=
 ⟨by rw [Below.heap_alloc _ _ _ h.lt]; exact h.blk, h.rows.alloc o, h.pr, h.gr, h.good, h.small, h.flag⟩
structure Rdy (w : World) (P R g : Nat) (L : List Con) (cf : Nat) (s : Bs) : Prop where
 p : Psr w P R g L cf
 r : Rdr w R (s, false)
theorem Rdy.alloc {w : World} {P R g cf : Nat} {L : List Con} {s : Bs} (h : Rdy w P R g L cf s) (o : Obj) : Rdy (w.alloc o) P R g L cf s := ⟨h.p.alloc o, h.r.alloc o⟩
theorem Rdy.drewN {w : World} {P R g cf : Nat} {L : List Con} {s : Bs} (h : Rdy w P R g L cf s) (n : Nat) : Rdy (w.drewN n) P R g L cf s := ⟨h.p.drewN n, h.r⟩
theorem Rdy.lts {w : World} {P R g cf : Nat} {L : List Con} {s : Bs} (h : Rdy w P R g L cf s) : P < w.heap.size ∧ R < w.heap.size ∧ g < w.heap.size := ⟨h.p.lt, h.r.lt, h.p.rows.lt⟩
theorem Rdy.cell {w : World} {P R g cf : Nat} {L : List Con} {s : Bs} (h : Rdy w P R g L cf s) {C : Nat} (hC : P < C ∧ R < C ∧ g < C) (i : Nat) (v : Value) : Rdy (w.setCell ⟨C, i, none⟩ v) P R g L cf s :=
 ⟨⟨by rw [Below.heap_setCell _ _ _ _ (Nat.ne_of_lt hC.1)]; exact h.p.blk, h.p.rows.other (Nat.ne_of_lt hC.2.2) v, h.p.pr, h.p.gr, h.p.good, h.p.small, h.p.flag⟩, h.r.other (Nat.ne_of_lt hC.2.1) v⟩
theorem only_cells {R b : Nat} {a : World} (hb : a.heap.size ≤ b) : ∀ (vs : List Value) (o : Nat) (w : World), Only R a w → Only R a (w.setCells b o vs)
 | [], _, _, h => h
 | v :: r, o, w, h => by
  rw [World.setCells]
  exact only_cells hb r (o + 1) _ (h.setCell (.inr hb) v)
theorem rdy_cells {P R g cf b : Nat} {L : List Con} {s : Bs} (hC : P < b ∧ R < b ∧ g < b) : ∀ (vs : List Value) (o : Nat) (w : World), Rdy w P R g L cf s → Rdy (w.setCells b o vs) P R g L cf s
 | [], _, _, h => h
 | v :: r, o, w, h => by
  rw [World.setCells]
  exact rdy_cells hC r (o + 1) _ (h.cell hC o v)
def Out {α : Type} (P R g : Nat) (L : List Con) (cf : Nat) (V : World → α → Value → Prop) (p : Pr α) (w : World) (e : Ending) (w' : World) : Prop :=
 Only R w w' ∧ match p with
 | .ok a r => ∃ v, e = .returned v ∧ V w' a v ∧ Rdy w' P R g L cf r
 | .er x => e = .panicked [pan x]
theorem Out.ok {α : Type} {P R g : Nat} {L : List Con} {cf : Nat} {V : World → α → Value → Prop} {p : Pr α} {a : α} {r : Bs} {w w' : World} {e : Ending} (h : Out P R g L cf V p w e w') (hp : p = .ok a r) : ∃ v, e = .returned v ∧ V w' a v ∧ Rdy w' P R g L cf r := by
 subst hp
 exact h.2
theorem Out.er {α : Type} {P R g : Nat} {L : List Con} {cf : Nat} {V : World → α → Value → Prop} {p : Pr α} {x : Nat} {w w' : World} {e : Ending} (h : Out P R g L cf V p w e w') (hp : p = .er x) : e = .panicked [pan x] := by
 subst hp
 exact h.2
theorem out_er {α : Type} {P R g : Nat} {L : List Con} {cf : Nat} {V : World → α → Value → Prop} {p : Pr α} {x : Nat} {w w' : World} (ho : Only R w w') (hp : p = .er x) : Out P R g L cf V p w (.panicked [pan x]) w' := by
 subst hp
 exact ⟨ho, rfl⟩
theorem out_ok {α : Type} {P R g : Nat} {L : List Con} {cf : Nat} {V : World → α → Value → Prop} {p : Pr α} {a : α} {r : Bs} {w w' : World} {v : Value} (ho : Only R w w') (hp : p = .ok a r) (hv : V w' a v) (hr : Rdy w' P R g L cf r) : Out P R g L cf V p w (.returned v) w' := by
 subst hp
 exact ⟨ho, v, rfl, hv, hr⟩
def IntV (_ : World) (n : Nat) (v : Value) : Prop := v = .int .i64 n
def TxtV (_ : World) (t : Bs) (v : Value) : Prop := v = .string (tx t)
set_option maxHeartbeats 1000000 in
set_option maxRecDepth 100000 in
theorem refuseCutOff_any (P R : Nat) (s : St) (b : Bool) (w : World) (hp : w.cell? ⟨P, 0, none⟩ = some (.pointer (some ⟨R, 0, none⟩))) (h : Hid (Rdr w R s)) (hb : Hid (s.2 = b)) :
  Calls Tryz.prog 125 #[.pointer (some ⟨P, 0, none⟩)] w fun e w' => (if b then e = .panicked [pan 11] else e = .returned (.tuple #[])) ∧ ∃ n, w' = w.drewN n := by
 have H2 : Hid ((!s.2) = !b) := lhid (by rw [hb.out])
 go_enter Tryz.func125, Tryz.ntmps125
 go_wp2_with fail
 with_reducible refine (left_r R s s.1.length _ _ h (lhid rfl) H2).mono ?_
 rintro e w1 ⟨rfl, n, rfl⟩
 cases b
 ·go_wp2_with fail
  with_reducible refine (refuse_no 11 _).mono ?_
  rintro e w2 ⟨rfl, rfl⟩
  go_wp2_with fail
  go_end0
  exact ⟨rfl, n, rfl⟩
 ·go_wp2_with fail
  with_reducible refine (refuse_yes 11 _).mono ?_
  rintro e w2 ⟨rfl, rfl⟩
  go_wp2_with fail
  exact ⟨rfl, rfl, n, rfl⟩
theorem refuseCutOff_no (P R : Nat) (s : St) (w : World) (hp : w.cell? ⟨P, 0, none⟩ = some (.pointer (some ⟨R, 0, none⟩))) (h : Hid (Rdr w R s)) (hb : Hid (s.2 = false)) :
  Calls Tryz.prog 125 #[.pointer (some ⟨P, 0, none⟩)] w fun e w' => e = .returned (.tuple #[]) ∧ ∃ n, w' = w.drewN n := refuseCutOff_any P R s false w hp h hb
theorem refuseCutOff_yes (P R : Nat) (s : St) (w : World) (hp : w.cell? ⟨P, 0, none⟩ = some (.pointer (some ⟨R, 0, none⟩))) (h : Hid (Rdr w R s)) (hb : Hid (s.2 = true)) :
  Calls Tryz.prog 125 #[.pointer (some ⟨P, 0, none⟩)] w fun e w' => e = .panicked [pan 11] ∧ ∃ n, w' = w.drewN n := refuseCutOff_any P R s true w hp h hb
set_option maxHeartbeats 1000000 in
set_option maxRecDepth 100000 in
theorem number_any (P R g cf : Nat) (L : List Con) (s : Bs) (n : Nat) (w : World) (h : Hid (Rdy w P R g L cf s)) (h1 : 1 ≤ n) (h2 : n ≤ 2) :
  Calls Tryz.prog 108 #[.pointer (some ⟨P, 0, none⟩), .int .i64 n] w (Out P R g L cf IntV (numP n s) w) := by
 have c0 := h.out.p.c0
 cases hp : numP n s with
 | ok k r =>
  obtain ⟨hk, hs⟩ := numP_st h1 (by omega) hp
  have hlt : k < 65536 := by
   have h3 := (numP_lt hp).1
   have h4 := pow_mono n 2 h2
   omega
  have HK := lhid hk
  have HS := lhid hs
  have HP := lhid hp
  clear hk hs hp
  go_enter Tryz.func108, Tryz.ntmps108
  go_wp2_with fail
  with_reducible refine (num_any R (s, false) n _ h.out.r).mono ?_
  rintro e w1 ⟨rfl, hr, ho⟩
  rw [HK.out]
  rw [HS.out] at hr
  have HR := lhid hr
  have HO := lhid ho
  have HP1 := lhid (h.out.p.keep ho)
  have c0 := HP1.out.c0
  have hw : wrap64 (k : Int) = k := IntWalk.wrap64_in _ (by omega)
  clear hr ho
  go_wp2_with fail
  with_reducible refine (refuseCutOff_no P R (r, false) _ c0 HR (lhid rfl)).mono ?_
  rintro e w2 ⟨rfl, q, rfl⟩
  go_wp2_with fail
  go_ret
  exact out_ok (HO.out.drewN q) rfl rfl ⟨HP1.out.drewN q, HR.out⟩
 | er x =>
  obtain ⟨hk, hs⟩ := numP_st_er h1 (by omega) hp
  have HX := lhid (numP_er hp).1
  have HK := lhid hk
  have HS := lhid hs
  clear hk hs hp
  go_enter Tryz.func108, Tryz.ntmps108
  go_wp2_with fail
  with_reducible refine (num_any R (s, false) n _ h.out.r).mono ?_
  rintro e w1 ⟨rfl, hr, ho⟩
  rw [HK.out]
  rw [HS.out] at hr
  have HR := lhid hr
  have HO := lhid ho
  have HP1 := lhid (h.out.p.keep ho)
  have c0 := HP1.out.c0
  clear hr ho
  go_wp2_with fail
  with_reducible refine (refuseCutOff_yes P R ([], true) _ c0 HR (lhid rfl)).mono ?_
  rintro e w2 ⟨rfl, q, rfl⟩
  go_wp2_with fail
  trace_state
  refine ⟨rfl, ?_⟩
  rw [HX.out]
  exact ⟨HO.out.drewN q, rfl⟩
end Go.Proofs.YtgihfcimngogfaaGreat
