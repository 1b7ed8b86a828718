/- Texts of this claim, joined: FileCatch, FileParse. -/
import Derived.Test.YtdlmadckpcnkoaaGreatJFileFile
import Derived.Defers
import Derived.Recover
import Derived.Laws.Pointers
/- Contracts of the closure that Parse defers. -/
namespace Go.Proofs.YtdlmadckpcnkoaaGreat
open Go.RowKit Go
set_option linter.unusedVariables false

abbrev zeroC : List Value := [.int .i64 0, .string ⟨#[]⟩, .string ⟨#[]⟩, .slice none 0 0, .slice none 0 0, .slice none 0 0, .slice none 0 0]
set_option maxHeartbeats 4000000 in
set_option maxRecDepth 100000 in
theorem catch_idle (C E : Nat) (w : World) :
    CallsD Tryz.prog 29 #[.pointer (some ⟨C, 0, none⟩), .pointer (some ⟨E, 0, none⟩)] .returning w fun e u' w' =>
      e = .returned (.tuple #[]) ∧ u' = .returning ∧ w' = w := by
  refine callsD_of_wpS Tryz.func29 rfl fun c₀ cs hu => ?_
  apply wpS_seq
  apply wpS_region
  simp [wpOpsS, go_sem, recoverD, hu, Tryz.ntmps29, Exit.thenS]
  rw [show (#[Value.pointer (some ⟨C, 0, none⟩), Value.pointer (some ⟨E, 0, none⟩)] ++ ((Array.replicate 7 undef).setIfInBounds 1 Value.nilIface).setIfInBounds 0 Value.nilIface : Array Value) = #[Value.pointer (some ⟨C, 0, none⟩), Value.pointer (some ⟨E, 0, none⟩), Value.nilIface, Value.nilIface, undef, undef, undef, undef, undef] from rfl]
  refine wpS_of_wp ?_
  go_wp2_with fail
  cases c₀
  simp_all [bodyPostS, results, Tryz.results29]
theorem cells_other {b k : Nat} (hk : k ≠ b) : ∀ (vs : List Value) (o : Nat) (w : World), (w.setCells b o vs).heap[k]? = w.heap[k]?
  | [], _, _ => rfl
  | v :: r, o, w => by
    rw [World.setCells, cells_other hk r (o + 1) _]
    exact Below.heap_setCell _ _ _ _ hk
theorem below_cells {B b : Nat} {a : World} (hb : B ≤ b) : ∀ (vs : List Value) (o : Nat) (w : World), Below B a w → Below B a (w.setCells b o vs)
  | [], _, _, h => h
  | v :: r, o, w, h => by
    rw [World.setCells]
    exact below_cells hb r (o + 1) _ (h.setCell hb v)
theorem catch_world (B C E : Nat) (x y : Int) (w : World) (hC : w.heap[C]? = some (.cells zeroC.toArray 29 (0, 0))) (hE : w.heap[E]? = some (.cells #[.int .i64 y] 30 (0, 0))) (hBC : B ≤ C) (hBE : B ≤ E) (hCE : C ≠ E) :
    Below B w (((((((((w.setCell ⟨C, 0, none⟩ (.int .i64 0)).setCell ⟨C, 1, none⟩ (.string ⟨#[]⟩)).setCell ⟨C, 2, none⟩ (.string ⟨#[]⟩)).setCell ⟨C, 3, none⟩ (.slice none 0 0)).setCell ⟨C, 4, none⟩ (.slice none 0 0)).setCell ⟨C, 5, none⟩ (.slice none 0 0)).setCell ⟨C, 6, none⟩ (.slice none 0 0)).setCell ⟨E, 0, none⟩ (.int .i64 x)).drew) ∧ (((((((((w.setCell ⟨C, 0, none⟩ (.int .i64 0)).setCell ⟨C, 1, none⟩ (.string ⟨#[]⟩)).setCell ⟨C, 2, none⟩ (.string ⟨#[]⟩)).setCell ⟨C, 3, none⟩ (.slice none 0 0)).setCell ⟨C, 4, none⟩ (.slice none 0 0)).setCell ⟨C, 5, none⟩ (.slice none 0 0)).setCell ⟨C, 6, none⟩ (.slice none 0 0)).setCell ⟨E, 0, none⟩ (.int .i64 x)).drew).heap[C]? = some (.cells zeroC.toArray 29 (0, 0)) ∧ (((((((((w.setCell ⟨C, 0, none⟩ (.int .i64 0)).setCell ⟨C, 1, none⟩ (.string ⟨#[]⟩)).setCell ⟨C, 2, none⟩ (.string ⟨#[]⟩)).setCell ⟨C, 3, none⟩ (.slice none 0 0)).setCell ⟨C, 4, none⟩ (.slice none 0 0)).setCell ⟨C, 5, none⟩ (.slice none 0 0)).setCell ⟨C, 6, none⟩ (.slice none 0 0)).setCell ⟨E, 0, none⟩ (.int .i64 x)).drew).heap[E]? = some (.cells #[.int .i64 x] 30 (0, 0)) := by
  have e : putA zeroC.toArray 0 zeroC = zeroC.toArray := by simp [putA, zeroC]
  have hw : (((((((w.setCell ⟨C, 0, none⟩ (.int .i64 0)).setCell ⟨C, 1, none⟩ (.string ⟨#[]⟩)).setCell ⟨C, 2, none⟩ (.string ⟨#[]⟩)).setCell ⟨C, 3, none⟩ (.slice none 0 0)).setCell ⟨C, 4, none⟩ (.slice none 0 0)).setCell ⟨C, 5, none⟩ (.slice none 0 0)).setCell ⟨C, 6, none⟩ (.slice none 0 0)) = w.setCells C 0 zeroC := by simp [World.setCells]
  rw [hw]
  have h1 := heap_setCells zeroC 0 w _ hC
  rw [e] at h1
  have h2 := (cells_other (fun e => hCE e.symm : E ≠ C) zeroC 0 w).trans hE
  have h3 := below_cells hBC zeroC 0 w (Below.refl B w)
  generalize w.setCells C 0 zeroC = w2 at *
  exact ⟨(h3.setCell (p := ⟨E, 0, none⟩) hBE _).drew, (Below.heap_setCell _ _ _ _ hCE).trans h1, heap_set (i := 0) h2 _⟩
set_option maxHeartbeats 400000 in
set_option maxRecDepth 100000 in
theorem catch_panic (B C E : Nat) (x y : Int) (w : World) (hC : w.heap[C]? = some (.cells zeroC.toArray 29 (0, 0))) (hE : w.heap[E]? = some (.cells #[.int .i64 y] 30 (0, 0))) (hBC : B ≤ C) (hBE : B ≤ E) (hCE : C ≠ E) :
    CallsD Tryz.prog 29 #[.pointer (some ⟨C, 0, none⟩), .pointer (some ⟨E, 0, none⟩)] (.panicking [pan x]) w fun e u' w' =>
      e = .returned (.tuple #[]) ∧ u' = .panicking [{ pan x with recovered := true }] ∧ Below B w w' ∧ w'.heap[C]? = some (.cells zeroC.toArray 29 (0, 0)) ∧ w'.heap[E]? = some (.cells #[.int .i64 x] 30 (0, 0)) := by
  refine callsD_of_wpS Tryz.func29 rfl fun c₀ cs hu => ?_
  apply wpS_seq
  apply wpS_region
  simp [wpOpsS, go_sem, recoverD, hu, Tryz.ntmps29, Exit.thenS]
  rw [show (#[Value.pointer (some ⟨C, 0, none⟩), Value.pointer (some ⟨E, 0, none⟩)] ++ ((Array.replicate 7 undef).setIfInBounds 1 (Value.iface 30 (Value.int IntKind.i64 x))).setIfInBounds 0 (Value.iface 30 (Value.int IntKind.i64 x)) : Array Value) = #[Value.pointer (some ⟨C, 0, none⟩), Value.pointer (some ⟨E, 0, none⟩), (Value.iface 30 (Value.int IntKind.i64 x)), (Value.iface 30 (Value.int IntKind.i64 x)), undef, undef, undef, undef, undef] from rfl]
  have fin : ∀ (a : Act) (W : World), a.defers = [] → Below B w W → W.heap[C]? = some (.cells zeroC.toArray 29 (0, 0)) → W.heap[E]? = some (.cells #[.int .i64 x] 30 (0, 0)) →
      bodyPostS Tryz.prog Tryz.f29 c₀ cs (fun e u' w' => e = .returned (.tuple #[]) ∧ u' = .panicking [{ v := Value.iface 30 (.int .i64 x), recovered := true }] ∧ Below B w w' ∧ w'.heap[C]? = some (.cells zeroC.toArray 29 (0, 0)) ∧ w'.heap[E]? = some (.cells #[.int .i64 x] 30 (0, 0))) Exit.normal a
        ({ fn := c₀.fn, tmps := c₀.tmps, todo := c₀.todo, defers := c₀.defers, mode := FrameMode.panicking [{ v := Value.iface 30 (.int .i64 x), recovered := true }], kind := c₀.kind, roundOf := c₀.roundOf } :: cs) W := by
    intro a W ha h1 h2 h3
    refine ⟨ha, _, rfl, .tuple #[], ?_, rfl, rfl, h1, h2, h3⟩
    simp [results, Tryz.results29]
  refine wpS_of_wp ?_
  go_wp2_with fail
  have q0 := heap_cell (i := 0) hE rfl
  have z0 := heap_thaw hE 0
  have p0 := heap_cell (i := 0) hC rfl
  have zp0 := heap_thaw hC 0
  have p1 := heap_cell (i := 1) hC rfl
  have zp1 := heap_thaw hC 1
  have p2 := heap_cell (i := 2) hC rfl
  have zp2 := heap_thaw hC 2
  have p3 := heap_cell (i := 3) hC rfl
  have zp3 := heap_thaw hC 3
  have p4 := heap_cell (i := 4) hC rfl
  have zp4 := heap_thaw hC 4
  have p5 := heap_cell (i := 5) hC rfl
  have zp5 := heap_thaw hC 5
  have p6 := heap_cell (i := 6) hC rfl
  have zp6 := heap_thaw hC 6
  have hta : ∀ W : World, (Instr.typeAssert (.iface 30 (.int .i64 x)) 20 30 false).run Tryz.prog W = .ok (.int .i64 x) W := fun _ => by kernel_rfl
  have hCE2 : ¬ C = E := hCE
  have hEC2 : ¬ E = C := fun e => hCE e.symm
  go_region
  have hcw := catch_world B C E x y w hC hE hBC hBE hCE
  exact fin _ _ rfl hcw.1 hcw.2.1 hcw.2.2
end Go.Proofs.YtdlmadckpcnkoaaGreat
/- Contract of file.Parse. -/
namespace Go.Proofs.YtdlmadckpcnkoaaGreat
open Go.RowKit Go
set_option linter.unusedVariables false

/-- How Parse ends. -/
def POut (p : Pr Cls) (w : World) (e : Ending) (w' : World) : Prop :=
  Below w.heap.size w w' ∧ match p with
  | .ok c _ => ∃ cv g, e = .returned (.tuple #[cv, .int .i64 0]) ∧ ClsV g w' c cv
  | .er x => e = .returned (.tuple #[.agg zeroC.toArray, .int .i64 x])
theorem pout_er {p : Pr Cls} {x : Nat} {w w' : World} (ho : Below w.heap.size w w') (hp : p = .er x) : POut p w (.returned (.tuple #[.agg #[.int .i64 0, .string ⟨#[]⟩, .string ⟨#[]⟩, .slice none 0 0, .slice none 0 0, .slice none 0 0, .slice none 0 0], .int .i64 x])) w' := by
  subst hp
  exact ⟨ho, rfl⟩
theorem pout_ok {p : Pr Cls} {c : Cls} {r : Bs} {g : Nat} {cv : Value} {w w' : World} (ho : Below w.heap.size w w') (hp : p = .ok c r) (hv : ClsV g w' c cv) : POut p w (.returned (.tuple #[cv, .int .i64 0])) w' := by
  subst hp
  exact ⟨ho, cv, g, rfl, hv⟩
abbrev zC : Obj := .cells #[.int .i64 0, .string ⟨#[]⟩, .string ⟨#[]⟩, .slice none 0 0, .slice none 0 0, .slice none 0 0, .slice none 0 0] 29
abbrev zE : Obj := .cells #[.int .i64 0] 30
set_option maxHeartbeats 1000000 in
set_option maxRecDepth 100000 in
theorem parse_long (v : Value) (l : Bs) (w : World) (h : Hid (RdB w v l)) (hl : 65536 < l.length) :
    Calls Tryz.prog 14 #[v] w (POut (parP l) w) := by
  obtain ⟨A, cap, rfl, hm⟩ := rdB_form h.out
  have HP : Hid (parP l = .er 2) := lhid (by unfold parP; rw [if_pos hl])
  have t : (65536 : Int) < l.length := by omega
  have HB : Hid (Below w.heap.size w ((w.alloc zC).alloc (.cells #[.int .i64 2] 30))) := lhid (((Below.refl w.heap.size w).alloc (Nat.le_refl _) _).alloc (by simp) _)
  have hmf : ∀ (fn : Fn) (first cap : Array Value) (w : World), (Instr.makeFunc fn first cap).run Tryz.prog w = .ok (.func fn first cap) w := fun _ _ _ _ => rfl
  go_enter_defers Tryz.func14, Tryz.ntmps14
  go_wp2_with fail
  refine ⟨.tuple #[.agg #[.int .i64 0, .string ⟨#[]⟩, .string ⟨#[]⟩, .slice none 0 0, .slice none 0 0, .slice none 0 0, .slice none 0 0], .int .i64 2], by simp [results, Tryz.results14, go_sem], pout_er HB.out HP.out⟩
theorem Two.below {P R B : Nat} {w w' : World} (h : Two P R w w') (hP : B ≤ P) (hR : B ≤ R) (hB : B ≤ w.heap.size) : Below B w w' := ⟨h.os, h.tape, h.output, h.size, fun k hk => h.block k (by omega) (by omega) (by omega)⟩
set_option maxHeartbeats 4000000 in
set_option maxRecDepth 100000 in
theorem parse_main (v : Value) (l : Bs) (w : World) (h : Hid (RdB w v l)) (hl : ¬ 65536 < l.length) :
    Calls Tryz.prog 14 #[v] w (POut (parP l) w) := by
  have HP : Hid (parP l = filP l) := lhid (by unfold parP; rw [if_neg hl])
  have hb2 : Below w.heap.size w ((w.alloc zC).alloc zE) := ((Below.refl w.heap.size w).alloc (Nat.le_refl _) _).alloc (by simp) _
  have HV : Hid (RdB ((w.alloc zC).alloc zE) v l) := lhid (rdB_below h.out (rdB_low h.out) hb2)
  have HB2 := lhid hb2
  have HC2 := lhid (new_one w zC zE)
  have HE2 := lhid (new_two w zC zE)
  clear hb2
  obtain ⟨A, cap, rfl, hm⟩ := rdB_form h.out
  have t : ¬ (65536 : Int) < l.length := by omega
  have hmf : ∀ (fn : Fn) (first cap : Array Value) (w : World), (Instr.makeFunc fn first cap).run Tryz.prog w = .ok (.func fn first cap) w := fun _ _ _ _ => rfl
  go_enter_defers Tryz.func14, Tryz.ntmps14
  go_wp2_with fail
  with_reducible refine (from_any _ l _ HV.out).mono ?_
  rintro e w1 ⟨rfl, rfl⟩
  have hs2 : ((w.alloc zC).alloc zE).heap.size = w.heap.size + 2 := by simp
  have HRD : Hid (Rdr ((((w.alloc zC).alloc zE).alloc (.cells #[.string (tx l), .bool false] 111)).alloc (.cells #[.pointer (some ⟨w.heap.size + 2, 0, none⟩), .slice none 0 0, .int .i64 0] 65)) (w.heap.size + 2) (l, false)) := lhid (by
    rw [← hs2]
    exact (rdr_new _ l).alloc _)
  have HPP : Hid (((((w.alloc zC).alloc zE).alloc (.cells #[.string (tx l), .bool false] 111)).alloc (.cells #[.pointer (some ⟨w.heap.size + 2, 0, none⟩), .slice none 0 0, .int .i64 0] 65)).heap[w.heap.size + 3]? = some (.cells #[.pointer (some ⟨w.heap.size + 2, 0, none⟩), .slice none 0 0, .int .i64 0] 65 (0, 0))) := lhid (by
    have := heap_alloc_new (((w.alloc zC).alloc zE).alloc (.cells #[.string (tx l), .bool false] 111)) (.cells #[.pointer (some ⟨w.heap.size + 2, 0, none⟩), .slice none 0 0, .int .i64 0] 65)
    simpa using this)
  have HC3 : Hid (((((w.alloc zC).alloc zE).alloc (.cells #[.string (tx l), .bool false] 111)).alloc (.cells #[.pointer (some ⟨w.heap.size + 2, 0, none⟩), .slice none 0 0, .int .i64 0] 65)).heap[w.heap.size]? = some zC) := lhid (by
    rw [Below.heap_alloc _ _ _ (by simp; omega), Below.heap_alloc _ _ _ (by simp; omega)]
    exact HC2.out)
  have HE3 : Hid (((((w.alloc zC).alloc zE).alloc (.cells #[.string (tx l), .bool false] 111)).alloc (.cells #[.pointer (some ⟨w.heap.size + 2, 0, none⟩), .slice none 0 0, .int .i64 0] 65)).heap[w.heap.size + 1]? = some zE) := lhid (by
    rw [Below.heap_alloc _ _ _ (by simp), Below.heap_alloc _ _ _ (by simp)]
    exact HE2.out)
  have HB3 : Hid (Below w.heap.size w ((((w.alloc zC).alloc zE).alloc (.cells #[.string (tx l), .bool false] 111)).alloc (.cells #[.pointer (some ⟨w.heap.size + 2, 0, none⟩), .slice none 0 0, .int .i64 0] 65))) := lhid ((HB2.out.alloc (by simp; omega) _).alloc (by simp; omega) _)
  have HSZ : Hid (w.heap.size ≤ ((((w.alloc zC).alloc zE).alloc (.cells #[.string (tx l), .bool false] 111)).alloc (.cells #[.pointer (some ⟨w.heap.size + 2, 0, none⟩), .slice none 0 0, .int .i64 0] 65)).heap.size) := lhid (by simp; omega)
  clear hs2
  go_wp2_with fail
  with_reducible refine (file_any (w.heap.size + 3) (w.heap.size + 2) l _ HPP HRD (by omega)).mono ?_
  rintro e w4 ⟨ho, hx⟩
  have HB4 := lhid (HB3.out.trans (ho.below (by omega) (by omega) HSZ.out))
  have HC4 := lhid (ho.keep HC3.out (by omega) (by omega))
  have HE4 := lhid (ho.keep HE3.out (by omega) (by omega))
  clear ho
  cases hp : filP l with
  | er x =>
    rw [hp] at hx
    have HF : Hid (parP l = .er x) := lhid (HP.out.trans hp)
    clear hp
    obtain rfl := hx
    go_wp2_with fail
    refine leaves_cons (f := 29) (args := #[.pointer (some ⟨w.heap.size, 0, none⟩), .pointer (some ⟨w.heap.size + 1, 0, none⟩)]) (by simp) (by simp [go_sem]) ?_
    refine (catch_panic w.heap.size w.heap.size (w.heap.size + 1) x 0 w4 HC4.out HE4.out (Nat.le_refl _) (by omega) (by omega)).mono ?_
    rintro e u' w5 ⟨rfl, rfl, hb, hc, he⟩
    have p0 := heap_cell (i := 0) hc rfl
    have p1 := heap_cell (i := 1) hc rfl
    have p2 := heap_cell (i := 2) hc rfl
    have p3 := heap_cell (i := 3) hc rfl
    have p4 := heap_cell (i := 4) hc rfl
    have p5 := heap_cell (i := 5) hc rfl
    have p6 := heap_cell (i := 6) hc rfl
    have q0 := heap_cell (i := 0) he rfl
    change Leaves _ _ _ _ [] (settle _) _
    refine ⟨.tuple #[.agg #[.int .i64 0, .string ⟨#[]⟩, .string ⟨#[]⟩, .slice none 0 0, .slice none 0 0, .slice none 0 0, .slice none 0 0], .int .i64 x], by simp [results, Tryz.results14, go_sem, p0, p1, p2, p3, p4, p5, p6, q0], pout_er (HB4.out.trans hb) HF.out⟩
  | ok c r =>
    rw [hp] at hx
    have HF : Hid (parP l = .ok c r) := lhid (HP.out.trans hp)
    clear hp
    obtain ⟨cv, g, rfl, a, b, d, rfl, h1, h2, h3, h4⟩ := hx
    obtain ⟨aA, ac, rfl⟩ := slO_shape h1
    obtain ⟨bA, bc, rfl⟩ := slO_shape h3
    obtain ⟨dA, dc, rfl⟩ := slO_shape h4
    have HE5 : Hid (((w4.setCells w.heap.size 0 [.int .i64 c.flags, .string (tx c.name), .string (tx c.super), .slice aA c.ifaces.length ac, .slice (some ⟨g, 0, none⟩) c.pool.length c.pool.length, .slice bA c.fields.length bc, .slice dA c.methods.length dc]).setCell ⟨w.heap.size + 1, 0, none⟩ (.int .i64 0)).heap[w.heap.size + 1]? = some (.cells #[.int .i64 0] 30 (0, 0))) := lhid (heap_set (i := 0) ((cells_other (by omega) _ 0 w4).trans HE4.out) _)
    have hbe : Boxed (w4.setCells w.heap.size 0 [.int .i64 c.flags, .string (tx c.name), .string (tx c.super), .slice aA c.ifaces.length ac, .slice (some ⟨g, 0, none⟩) c.pool.length c.pool.length, .slice bA c.fields.length bc, .slice dA c.methods.length dc]) (w.heap.size + 1) 30 := ⟨_, _, (cells_other (by omega) _ 0 w4).trans HE4.out⟩
    have H1 := lhid (strs_set (strs_cells h1 ⟨_, _, HC4.out⟩ (by decide) [.int .i64 c.flags, .string (tx c.name), .string (tx c.super), .slice aA c.ifaces.length ac, .slice (some ⟨g, 0, none⟩) c.pool.length c.pool.length, .slice bA c.fields.length bc, .slice dA c.methods.length dc] 0) hbe (by decide) 0 (.int .i64 0))
    have H3 := lhid (flds_set (flds_cells h3 ⟨_, _, HC4.out⟩ (by decide) [.int .i64 c.flags, .string (tx c.name), .string (tx c.super), .slice aA c.ifaces.length ac, .slice (some ⟨g, 0, none⟩) c.pool.length c.pool.length, .slice bA c.fields.length bc, .slice dA c.methods.length dc] 0) hbe (by decide) 0 (.int .i64 0))
    have H4 := lhid (mets_set (mets_cells h4 ⟨_, _, HC4.out⟩ (by decide) [.int .i64 c.flags, .string (tx c.name), .string (tx c.super), .slice aA c.ifaces.length ac, .slice (some ⟨g, 0, none⟩) c.pool.length c.pool.length, .slice bA c.fields.length bc, .slice dA c.methods.length dc] 0) hbe (by decide) 0 (.int .i64 0))
    have hgc : g ≠ w.heap.size ∧ g ≠ w.heap.size + 1 := by
      obtain ⟨cc, hcc, _⟩ := h2
      refine ⟨?_, ?_⟩
      · rintro rfl
        rw [HC4.out] at hcc
        injection hcc with hcc
        injection hcc with _ hcc _
        exact absurd hcc (by decide)
      · rintro rfl
        rw [HE4.out] at hcc
        injection hcc with hcc
        injection hcc with _ hcc _
        exact absurd hcc (by decide)
    have H2 := lhid (RowsAt.other (rows_cells hgc.1 [.int .i64 c.flags, .string (tx c.name), .string (tx c.super), .slice aA c.ifaces.length ac, .slice (some ⟨g, 0, none⟩) c.pool.length c.pool.length, .slice bA c.fields.length bc, .slice dA c.methods.length dc] 0 w4 h2) (p := ⟨w.heap.size + 1, 0, none⟩) hgc.2 (.int .i64 0))
    have HB5 := lhid ((below_cells (Nat.le_refl _) [.int .i64 c.flags, .string (tx c.name), .string (tx c.super), .slice aA c.ifaces.length ac, .slice (some ⟨g, 0, none⟩) c.pool.length c.pool.length, .slice bA c.fields.length bc, .slice dA c.methods.length dc] 0 w4 HB4.out).setCell (p := ⟨w.heap.size + 1, 0, none⟩) (Nat.le_succ _) (.int .i64 0))
    clear h1 h2 h3 h4 hbe hgc
    have q0 := heap_cell (i := 0) HE4.out rfl
    have y0 := heap_thaw HE4.out 0
    have p0 := heap_cell (i := 0) HC4.out rfl
    have z0 := heap_thaw HC4.out 0
    have p1 := heap_cell (i := 1) HC4.out rfl
    have z1 := heap_thaw HC4.out 1
    have p2 := heap_cell (i := 2) HC4.out rfl
    have z2 := heap_thaw HC4.out 2
    have p3 := heap_cell (i := 3) HC4.out rfl
    have z3 := heap_thaw HC4.out 3
    have p4 := heap_cell (i := 4) HC4.out rfl
    have z4 := heap_thaw HC4.out 4
    have p5 := heap_cell (i := 5) HC4.out rfl
    have z5 := heap_thaw HC4.out 5
    have p6 := heap_cell (i := 6) HC4.out rfl
    have z6 := heap_thaw HC4.out 6
    go_wp2_with fail
    refine leaves_cons (f := 29) (args := #[.pointer (some ⟨w.heap.size, 0, none⟩), .pointer (some ⟨w.heap.size + 1, 0, none⟩)]) (by simp) (by simp [go_sem]) ?_
    refine (catch_idle w.heap.size (w.heap.size + 1) _).mono ?_
    rintro e u' w5 ⟨rfl, rfl, rfl⟩
    change Leaves _ _ _ _ [] (settle _) _
    refine ⟨.tuple #[.agg #[.int .i64 c.flags, .string (tx c.name), .string (tx c.super), .slice aA c.ifaces.length ac, .slice (some ⟨g, 0, none⟩) c.pool.length c.pool.length, .slice bA c.fields.length bc, .slice dA c.methods.length dc], .int .i64 0], by simp [results, Tryz.results14, go_sem, p0, p1, p2, p3, p4, p5, p6, q0], ?_⟩
    exact pout_ok (c := c) (r := r) HB5.out HF.out ⟨_, _, _, rfl, H1.out, H2.out, H3.out, H4.out⟩
theorem parse_any (v : Value) (l : Bs) (w : World) (h : Hid (RdB w v l)) :
    Calls Tryz.prog 14 #[v] w (POut (parP l) w) := by
  by_cases hl : 65536 < l.length
  · exact parse_long v l w h hl
  · exact parse_main v l w h hl
end Go.Proofs.YtdlmadckpcnkoaaGreat
