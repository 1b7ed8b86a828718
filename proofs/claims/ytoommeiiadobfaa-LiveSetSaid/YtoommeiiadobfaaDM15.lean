/- Texts of this claim, joined: DRegionInv, DLivAhI. -/
import Derived.Orders
import Derived.Test.YtoommeiiadobfaaDM14
/- A region that draws its order, by one relation that every operation keeps: no program in this text. -/
namespace Go.Proofs.Ytoommeiiadobfaa
open Go
set_option linter.unusedVariables false
theorem ready_unlisted {md : Region.Mode} {ops : Array Oper} {listed : Array Bool} {i : Nat} (h : i ∈ Region.ready md ops listed) (hs : listed.size = ops.size) : ∃ hi : i < listed.size, listed[i] = false := by
 unfold Region.ready at h
 rw [List.mem_filter, List.mem_range] at h
 have hi : i < listed.size := by omega
 refine ⟨hi, ?_⟩
 have h2 := h.2
 rw [Bool.and_eq_true] at h2
 have h3 := h2.1
 simp [Array.getD, hi] at h3
 exact h3
theorem ready_none {md : Region.Mode} {ops : Array Oper} {listed : Array Bool} (hs : listed.size = ops.size) (h : listed.toList.count false = 0) : Region.ready md ops listed = [] := by
 rw [List.eq_nil_iff_forall_not_mem]
 intro i hi
 obtain ⟨h1, h2⟩ := ready_unlisted hi hs
 rw [List.count_eq_zero] at h
 apply h
 rw [← h2]
 simp
theorem wpAny_inv {P : Program} {md : Region.Mode} {ops : Array Oper} {Q : Exit → Act → World → Prop} (I : Array Bool → Act → World → Prop)
  (hstep : ∀ (listed : Array Bool) (a : Act) (w : World) (i : Nat), listed.size = ops.size → I listed a w → i ∈ Region.ready md ops listed → wpOp P ops Q i (fun a' w' => I (listed.setIfInBounds i true) a' w') a w)
  (hend : ∀ (listed : Array Bool) (a : Act) (w : World), listed.size = ops.size → Region.ready md ops listed = [] → I listed a w → Q .normal a w) :
  ∀ (fuel : Nat) (listed : Array Bool) (a : Act) (w : World), listed.size = ops.size → listed.toList.count false ≤ fuel → I listed a w → wpAny P md ops Q fuel listed a w
 | 0, listed, a, w, hs, hc, hI => by
  have hr := ready_none (md := md) hs (by omega)
  exact ⟨hr, hend listed a w hs hr hI⟩
 | fuel + 1, listed, a, w, hs, hc, hI => by
  refine ⟨fun hr => hend listed a w hs hr hI, fun i hi => wpOp_mono (fun a' w' h' => ?_) (hstep listed a w i hs hI hi)⟩
  obtain ⟨h1, h2⟩ := ready_unlisted hi hs
  refine wpAny_inv I hstep hend fuel _ a' w' (by simpa using hs) ?_ h'
  have hl : (listed.setIfInBounds i true).toList = listed.toList.set i true := by simp
  have h3 : listed.toList[i]'(by simpa using h1) = false := by simpa using h2
  rw [hl, List.count_set (by simpa using h1), h3]
  have h4 : listed.toList.count false - 1 + 0 ≤ fuel := by omega
  exact h4
end Go.Proofs.Ytoommeiiadobfaa
/- The first region of live's ahead, which draws its order: what stands while its blocks are made. -/
namespace Go.Proofs.Ytoommeiiadobfaa
open Go.RowKit Go
set_option linter.unusedVariables false
set_option linter.unusedSimpArgs false
structure AhI (B n : Nat) (w0 w : World) (l3 l7 l8 l9 l10 l11 : Bool) (g3 g7 g8 g9 : Nat) : Prop where
 bel : Below B w0 w
 m3 : l3 = true → B ≤ g3 ∧ Mks w g3 n fun _ => 0
 m7 : l7 = true → B ≤ g7 ∧ Mks w g7 n fun _ => 0
 b8 : l8 = true → B ≤ g8 ∧ w.heap[g8]? = some (.cells #[bif l10 then .slice (some ⟨g3, 0, none⟩) n n else .slice none 0 0] 50 (0, 0))
 b9 : l9 = true → B ≤ g9 ∧ w.heap[g9]? = some (.cells #[bif l11 then .slice (some ⟨g7, 0, none⟩) n n else .slice none 0 0] 50 (0, 0))
 ne : l3 = true → l7 = true → g3 ≠ g7
 ne2 : l8 = true → l9 = true → g8 ≠ g9
 ord : (l10 = true → l3 = true ∧ l8 = true) ∧ (l11 = true → l7 = true ∧ l9 = true)
section
variable {B n : Nat} {w0 w : World} {l3 l7 l8 l9 l10 l11 : Bool} {g3 g7 g8 g9 : Nat}
theorem AhI.begin (B n : Nat) (w0 w : World) (h : Below B w0 w) : AhI B n w0 w false false false false false false 0 0 0 0 :=
 ⟨h, fun h => (by cases h), fun h => (by cases h), fun h => (by cases h), fun h => (by cases h), fun h => (by cases h), fun h => (by cases h), fun h => (by cases h), fun h => (by cases h)⟩
theorem mk_alloc {m : Nat → Mk} (h : Mks w g3 n m) (o : Obj) : Mks (w.alloc o) g3 n m := h.below ((Below.refl _ _).alloc (Nat.le_refl _) _)
theorem hp_alloc {k : Nat} {c : Array Value} {t : TypeId} {f : Nat × Nat} (h : w.heap[k]? = some (.cells c t f)) (o : Obj) : (w.alloc o).heap[k]? = some (.cells c t f) := heap_keep h ((Below.refl _ _).alloc (Nat.le_refl _) _)
theorem AhI.a3 (h : AhI B n w0 w false l7 l8 l9 false l11 g3 g7 g8 g9) (hB : B ≤ w.heap.size) : AhI B n w0 (w.alloc (.cells (madeCells #[.int .u64 0] n) 59)) true l7 l8 l9 false l11 w.heap.size g7 g8 g9 :=
 ⟨h.bel.alloc hB _, fun _ => ⟨hB, Mks.made w n⟩, fun e => ⟨(h.m7 e).1, mk_alloc (h.m7 e).2 _⟩, fun e => ⟨(h.b8 e).1, hp_alloc (h.b8 e).2 _⟩, fun e => ⟨(h.b9 e).1, hp_alloc (h.b9 e).2 _⟩, fun _ e => (by have := (h.m7 e).2.lt; omega), h.ne2, ⟨fun e => (by cases e), h.ord.2⟩⟩
theorem AhI.a7 (h : AhI B n w0 w l3 false l8 l9 l10 false g3 g7 g8 g9) (hB : B ≤ w.heap.size) : AhI B n w0 (w.alloc (.cells (madeCells #[.int .u64 0] n) 59)) l3 true l8 l9 l10 false g3 w.heap.size g8 g9 :=
 ⟨h.bel.alloc hB _, fun e => ⟨(h.m3 e).1, mk_alloc (h.m3 e).2 _⟩, fun _ => ⟨hB, Mks.made w n⟩, fun e => ⟨(h.b8 e).1, hp_alloc (h.b8 e).2 _⟩, fun e => ⟨(h.b9 e).1, hp_alloc (h.b9 e).2 _⟩, fun e _ => (by have := (h.m3 e).2.lt; omega), h.ne2, ⟨h.ord.1, fun e => (by cases e)⟩⟩
theorem AhI.a8 (h : AhI B n w0 w l3 l7 false l9 false l11 g3 g7 g8 g9) (hB : B ≤ w.heap.size) : AhI B n w0 (w.alloc (.cells #[.slice none 0 0] 50)) l3 l7 true l9 false l11 g3 g7 w.heap.size g9 :=
 ⟨h.bel.alloc hB _, fun e => ⟨(h.m3 e).1, mk_alloc (h.m3 e).2 _⟩, fun e => ⟨(h.m7 e).1, mk_alloc (h.m7 e).2 _⟩, fun _ => ⟨hB, heap_alloc_new w _⟩, fun e => ⟨(h.b9 e).1, hp_alloc (h.b9 e).2 _⟩, h.ne, fun _ e => (by have := heap_lt (h.b9 e).2; omega), ⟨fun e => (by cases e), h.ord.2⟩⟩
theorem AhI.a9 (h : AhI B n w0 w l3 l7 l8 false l10 false g3 g7 g8 g9) (hB : B ≤ w.heap.size) : AhI B n w0 (w.alloc (.cells #[.slice none 0 0] 50)) l3 l7 l8 true l10 false g3 g7 g8 w.heap.size :=
 ⟨h.bel.alloc hB _, fun e => ⟨(h.m3 e).1, mk_alloc (h.m3 e).2 _⟩, fun e => ⟨(h.m7 e).1, mk_alloc (h.m7 e).2 _⟩, fun e => ⟨(h.b8 e).1, hp_alloc (h.b8 e).2 _⟩, fun _ => ⟨hB, heap_alloc_new w _⟩, h.ne, fun e _ => (by have := heap_lt (h.b8 e).2; omega), ⟨h.ord.1, fun e => (by cases e)⟩⟩
theorem Mks.netb {w : World} {g n k : Nat} {m : Nat → Mk} {c : Array Value} (h : Mks w g n m) (hk : w.heap[k]? = some (.cells c 50 (0, 0))) : g ≠ k := by
 obtain ⟨d, h1, _⟩ := h
 exact blk_ne h1 hk (by decide)
theorem AhI.s10 (h : AhI B n w0 w true l7 true l9 false l11 g3 g7 g8 g9) (hB : B ≤ w0.heap.size) : AhI B n w0 (w.setCell ⟨g8, 0, none⟩ (.slice (some ⟨g3, 0, none⟩) n n)) true l7 true l9 true l11 g3 g7 g8 g9 := by
 have hc := (Ch.refl (fun k => k = g8) w).set (p := ⟨g8, 0, none⟩) (fun _ => rfl) (.slice (some ⟨g3, 0, none⟩) n n)
 have h8 := h.b8 rfl
 have h3 := h.m3 rfl
 refine ⟨h.bel.trans (hc.to (Nat.le_trans hB h.bel.size) (fun b e => by rw [e]; exact h8.1)), fun _ => ⟨h3.1, h3.2.of (hc.block g3 h3.2.lt (h3.2.netb h8.2))⟩, fun e => ⟨(h.m7 e).1, (h.m7 e).2.of (hc.block g7 (h.m7 e).2.lt ((h.m7 e).2.netb h8.2))⟩, fun _ => ⟨h8.1, ?_⟩, fun e => ⟨(h.b9 e).1, hc.keep (h.b9 e).2 (fun e2 => h.ne2 rfl e e2.symm)⟩, h.ne, h.ne2, ⟨fun _ => ⟨rfl, rfl⟩, h.ord.2⟩⟩
 have := heap_set (i := 0) h8.2 (.slice (some ⟨g3, 0, none⟩) n n)
 simpa using this
theorem AhI.s11 (h : AhI B n w0 w l3 true l8 true l10 false g3 g7 g8 g9) (hB : B ≤ w0.heap.size) : AhI B n w0 (w.setCell ⟨g9, 0, none⟩ (.slice (some ⟨g7, 0, none⟩) n n)) l3 true l8 true l10 true g3 g7 g8 g9 := by
 have hc := (Ch.refl (fun k => k = g9) w).set (p := ⟨g9, 0, none⟩) (fun _ => rfl) (.slice (some ⟨g7, 0, none⟩) n n)
 have h9 := h.b9 rfl
 have h7 := h.m7 rfl
 refine ⟨h.bel.trans (hc.to (Nat.le_trans hB h.bel.size) (fun b e => by rw [e]; exact h9.1)), fun e => ⟨(h.m3 e).1, (h.m3 e).2.of (hc.block g3 (h.m3 e).2.lt ((h.m3 e).2.netb h9.2))⟩, fun _ => ⟨h7.1, h7.2.of (hc.block g7 h7.2.lt (h7.2.netb h9.2))⟩, fun e => ⟨(h.b8 e).1, hc.keep (h.b8 e).2 (fun e2 => h.ne2 e rfl e2)⟩, fun _ => ⟨h9.1, ?_⟩, h.ne, h.ne2, ⟨h.ord.1, fun _ => ⟨rfl, rfl⟩⟩⟩
 have := heap_set (i := 0) h9.2 (.slice (some ⟨g7, 0, none⟩) n n)
 simpa using this
end
end Go.Proofs.Ytoommeiiadobfaa
