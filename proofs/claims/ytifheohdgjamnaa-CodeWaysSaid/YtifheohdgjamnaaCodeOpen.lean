/- Arguments of law 06: slices of bytes, of numbers and of instructions, opened to lists. -/
import Derived.Test.YtifheohdgjamnaaCodeDecode
import Derived.ChangeSlices
import Derived.OpenShut
import Derived.WideShapes
import Derived.SizedLaws
import Derived.Deep.Slices
namespace Go.Proofs.Ytifheohdgjamnaa
open Go.RowKit Go Go.ChangeShapes Go.WideShapes
set_option linter.unusedVariables false

/-- The reading d has as many elements. -/
def Long {H : Type} (d : DataW H) (n : Nat) : Prop := n = 0 ∨ ∃ el sp : List (DataW H), d = .slice el sp ∧ el.length = n
theorem long_bound {H : Type} {P : Program} {ts : List TypeId} {ds : List (DataW H)} {d : DataW H} {n j : Nat} {t e : TypeId} (h : Long d n) (hsz : (DataW.weightsEach P ts ds).all (· ≤ reachBytes) = true) (ht : ts[j]? = some t) (hd : ds[j]? = some d) (hu : P.underlying t = some (.slice e)) (hb : 0 < P.bytesOf e) : n ≤ 140737488355328 := by
  rcases h with rfl | ⟨el, sp, rfl, rfl⟩
  · omega
  · have h1 := sized_slice hsz ht hd hu
    have h2 := reachBytes_lt
    have h3 : (el.length + sp.length) * 1 ≤ (el.length + sp.length) * P.bytesOf e := Nat.mul_le_mul_left _ hb
    omega
theorem okWide_spot {P : Program} {w : World} {r : Reach} {base : Nat} {t e : TypeId} {a : Option Addr} {len cap : Nat} (ht : P.underlying t = some (.slice e)) (h : Value.okWide P w r base t (.slice a len cap)) : ∀ x, a = some x → x.spot = none := by
  rintro x rfl
  simp only [Value.okWide, ht, Cell.okWide, Cell.ok] at h
  exact h.2.2.2.1
theorem getD_some (zs : List Int) (i : Nat) (h : i < zs.length) : zs.getD i 0 = zs[i] := by simp [List.getD, h]
theorem rdl_one {α : Type} {E : α → List Value} {f : α → Value} (hE : ∀ a, E a = [f a]) {w : World} {b o cap : Nat} {l : List α} (hl : l.length ≤ 140737488355328) (h : ∀ i x, l[i]? = some x → w.cell? ⟨b, o + i, none⟩ = some (f x)) : RdL 1 E w (.slice (some ⟨b, o, none⟩) l.length cap) l := by
  refine ⟨_, cap, rfl, hl, fun i a hi => ⟨b, o, rfl, fun j u hj => ?_⟩⟩
  rw [hE] at hj
  cases j with
  | succ j => simp at hj
  | zero =>
    simp at hj
    subst hj
    rw [Nat.mul_one]
    exact h i a hi
theorem open_bytes {P : Program} {H : Type} {enc : TypeId × Value → H} {w : World} {base t e fuel : Nat} {a : Option Addr} {len cap : Nat} {d : DataW H} {ps : List MemPlace} (ht : P.underlying t = some (.slice e)) (he : P.underlying e = some (.int .u8)) (hc : P.cellsOf e = 1) (hsp : ∀ x, a = some x → x.spot = none)
    (hf : DataW.trod enc P w base (fun _ => true) true fuel t [.slice a len cap] = some (d, ps)) : ∃ L : Bs, (L.length ≤ 140737488355328 → Bts w (.slice a len cap) L) ∧ Long d L.length := by
  rcases open_ints ht he hc hf with ⟨hcs, hx⟩ | ⟨a', len', cap', zs, hcs, _, hl, hm, hz, hx, hcell, hwz⟩
  · simp at hcs
    obtain ⟨rfl, rfl, rfl⟩ := hcs
    exact ⟨[], fun _ => ⟨rdl_nil _ _ _ _ _, none, 0, rfl, Nat.le_refl _, Nat.zero_le _⟩, .inl rfl⟩
  · simp at hcs
    obtain ⟨rfl, rfl, rfl⟩ := hcs
    simp only [if_true] at hz
    simp only [Prod.mk.injEq] at hx
    obtain ⟨b, o, sp⟩ := a'
    have hs := hsp _ rfl
    simp only at hs
    subst hs
    have hlen : ((zs.take len).map fun n => UInt8.ofNat n.toNat).length = len := by simp; omega
    refine ⟨(zs.take len).map fun n => UInt8.ofNat n.toNat, fun hL => ⟨?_, some ⟨b, o, none⟩, cap, by rw [hlen], by omega, hm⟩, .inr ⟨_, _, hx.1, by simp [lits]⟩⟩
    have key := rdl_one (E := bytE) (f := fun b => Value.int .u8 (b.toNat : Int)) (fun _ => rfl) (w := w) (b := b) (o := o) (cap := cap) hL (fun i c hi => ?_)
    · rwa [hlen] at key
    have hil : i < len := by
      have := (List.getElem?_eq_some_iff.1 hi).1
      omega
    have hiz : i < zs.length := by omega
    rw [← add_plain, hcell i hiz, getD_some zs i hiz]
    rw [List.getElem?_map, List.getElem?_take_of_lt hil, List.getElem?_eq_getElem hiz] at hi
    simp only [Option.map_some, Option.some.injEq] at hi
    have hb := bounds_u8 (hwz zs[i] (List.getElem_mem hiz))
    rw [← hi]
    congr 2
    have h1 : (UInt8.ofNat (zs[i]).toNat).toNat = (zs[i]).toNat := by
      rw [UInt8.toNat_ofNat']
      exact Nat.mod_eq_of_lt (by omega)
    rw [h1]
    omega
theorem open_nums {P : Program} {H : Type} {enc : TypeId × Value → H} {w : World} {base t e fuel : Nat} {a : Option Addr} {len cap : Nat} {d : DataW H} {ps : List MemPlace} (ht : P.underlying t = some (.slice e)) (he : P.underlying e = some (.int .i64)) (hc : P.cellsOf e = 1) (hsp : ∀ x, a = some x → x.spot = none)
    (hf : DataW.trod enc P w base (fun _ => true) true fuel t [.slice a len cap] = some (d, ps)) : ∃ Z : List Int, (Z.length ≤ 140737488355328 → RdI w (.slice a len cap) Z ∧ ∀ z ∈ Z, I64 z) ∧ Long d Z.length := by
  rcases open_ints ht he hc hf with ⟨hcs, hx⟩ | ⟨a', len', cap', zs, hcs, _, hl, hm, hz, hx, hcell, hwz⟩
  · simp at hcs
    obtain ⟨rfl, rfl, rfl⟩ := hcs
    exact ⟨[], fun _ => ⟨rdl_nil _ _ _ _ _, by simp⟩, .inl rfl⟩
  · simp at hcs
    obtain ⟨rfl, rfl, rfl⟩ := hcs
    simp only [if_true] at hz
    simp only [Prod.mk.injEq] at hx
    obtain ⟨b, o, sp⟩ := a'
    have hs := hsp _ rfl
    simp only at hs
    subst hs
    have hlen : (zs.take len).length = len := by simp; omega
    refine ⟨zs.take len, fun hL => ⟨?_, fun z hz' => bounds_i64 (hwz z (List.mem_of_mem_take hz'))⟩, .inr ⟨_, _, hx.1, by simp [lits]⟩⟩
    have key := rdl_one (E := intE) (f := fun z => Value.int .i64 z) (fun _ => rfl) (w := w) (b := b) (o := o) (cap := cap) hL (fun i c hi => ?_)
    · rwa [hlen] at key
    have hil : i < len := by
      have := (List.getElem?_eq_some_iff.1 hi).1
      omega
    have hiz : i < zs.length := by omega
    rw [← add_plain, hcell i hiz, getD_some zs i hiz]
    rw [List.getElem?_take_of_lt hil, List.getElem?_eq_getElem hiz] at hi
    simp only [Option.some.injEq] at hi
    rw [hi]
instance : Inhabited Cop := ⟨⟨0, 0, 0, 0⟩⟩
theorem open_ops {P : Program} {H : Type} {enc : TypeId × Value → H} {w : World} {base t e fuel : Nat} {a : Option Addr} {len cap : Nat} {d : DataW H} {ps : List MemPlace} {f0 f1 f2 f3 : Field} (ht : P.underlying t = some (.slice e)) (he : P.underlying e = some (.struct #[f0, f1, f2, f3])) (ce : P.cellsOf e = 4)
    (o0 : f0.offset = 0) (o1 : f1.offset = 1) (o2 : f2.offset = 2) (o3 : f3.offset = 3) (c0 : P.cellsOf f0.type = 1) (c1 : P.cellsOf f1.type = 1) (c2 : P.cellsOf f2.type = 1) (c3 : P.cellsOf f3.type = 1)
    (u0 : P.underlying f0.type = some (.int .i64)) (u1 : P.underlying f1.type = some (.int .i64)) (u2 : P.underlying f2.type = some (.int .i64)) (u3 : P.underlying f3.type = some (.int .i64)) (hsp : ∀ x, a = some x → x.spot = none)
    (hf : DataW.trod enc P w base (fun _ => true) true fuel t [.slice a len cap] = some (d, ps)) : ∃ l : List Cop, (l.length ≤ 140737488355328 → RdO w (.slice a len cap) l) ∧ Long d l.length := by
  rcases Go.Deep.open_slice ht hf with ⟨hcs, hx⟩ | ⟨a', len', cap', m, n, D, Pl, hcs, _, hl, hm, hmm, hx, hel⟩
  · simp at hcs
    obtain ⟨rfl, rfl, rfl⟩ := hcs
    exact ⟨[], fun _ => rdl_nil _ _ _ _ _, .inl rfl⟩
  · simp at hcs
    obtain ⟨rfl, rfl, rfl⟩ := hcs
    simp only [if_true] at hmm
    simp only [Prod.mk.injEq] at hx
    obtain ⟨b, o, sp⟩ := a'
    have hs := hsp _ rfl
    simp only at hs
    subst hs
    have each : ∀ i, i < len → ∃ x : Cop, ∀ (j : Nat) u, (copE x)[j]? = some u → w.cell? ⟨b, o + i * 4 + j, none⟩ = some u := by
      intro i hi
      obtain ⟨cs', h1, h2⟩ := hel i (by omega)
      rw [ce] at h1
      obtain ⟨_, hlen, hcell⟩ := World.cells?_some h1
      obtain ⟨xs, k, hk, hxy, _, hxl, hfs⟩ := DataW.trod_struct he h2
      match xs, hxl, cs', hlen with
      | [y0, y1, y2, y3], _, [v0, v1, v2, v3], _ =>
        have g0 := hfs 0 f0 rfl
        have g1 := hfs 1 f1 rfl
        have g2 := hfs 2 f2 rfl
        have g3 := hfs 3 f3 rfl
        simp [o0, o1, o2, o3, c0, c1, c2, c3] at g0 g1 g2 g3
        obtain ⟨n0, e0, _⟩ := DataW.trod_int u0 g0
        obtain ⟨n1, e1, _⟩ := DataW.trod_int u1 g1
        obtain ⟨n2, e2, _⟩ := DataW.trod_int u2 g2
        obtain ⟨n3, e3, _⟩ := DataW.trod_int u3 g3
        simp at e0 e1 e2 e3
        subst e0 e1 e2 e3
        refine ⟨⟨n0, n1, n2, n3⟩, fun j u hj => ?_⟩
        have hj4 : j < 4 := (List.getElem?_eq_some_iff.1 hj).1
        have hc := hcell j hj4
        rw [Go.Deep.add_add, add_plain, ← Nat.add_assoc] at hc
        exact hc.trans hj
    obtain ⟨f, hfx⟩ := Go.Deep.choose_lt each
    have hlen : ((List.range len).map f).length = len := by simp
    refine ⟨(List.range len).map f, fun hL => ⟨some ⟨b, o, none⟩, cap, by rw [hlen], hL, fun i x hi => ⟨b, o, rfl, ?_⟩⟩, .inr ⟨_, _, hx.1, by simp⟩⟩
    have hil : i < len := by
      have := (List.getElem?_eq_some_iff.1 hi).1
      omega
    rw [List.getElem?_map, List.getElem?_range hil] at hi
    simp only [Option.map_some, Option.some.injEq] at hi
    subst hi
    exact hfx i hil
end Go.Proofs.Ytifheohdgjamnaa
