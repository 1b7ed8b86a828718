/- Walk of law 04's FileBounds. -/
import Derived.Test.YtdlmadckpcnkoaaGreatJFileParses
namespace Go.Proofs.YtdlmadckpcnkoaaGreat
open Go.RowKit Go
set_option linter.unusedVariables false

set_option maxHeartbeats 8000000 in
set_option maxRecDepth 100000 in
theorem fbounds_er (hparse : Hid HParse) (v : Value) (l : Bs) (x : Nat) (w : World) (h : Hid (RdB w v l)) (hp : Hid (parP l = .er x)) (hx0 : x ≠ 0) :
    Calls Tryz.prog 5 #[v] w fun e w' => e = .returned (.bool true) ∧ Below w.heap.size w w' := by
  go_enter Tryz.func5, Tryz.ntmps5
  go_wp2_with fail
  with_reducible refine (fholds_any hparse w).mono ?_
  rintro e w1 ⟨rfl, hb⟩
  have HB1 := lhid hb
  have HR1 := lhid (rdB_below h.out (rdB_low h.out) hb)
  clear hb
  go_wp2_with fail
  with_reducible refine (parse_any _ l _ HR1).mono ?_
  rintro e w2 ⟨hb, hx⟩
  rw [hp.out] at hx
  obtain rfl := hx
  have HB2 := lhid (HB1.out.trans (below_lt hb HB1.out.size))
  have HB3 := lhid (HB2.out.alloc HB2.out.size zC)
  have HX3 := lhid (heap_alloc_new w2 zC)
  clear hb
  have x0 := heap_cell (i := 0) HX3.out rfl
  have x1 := heap_cell (i := 1) HX3.out rfl
  have x2 := heap_cell (i := 2) HX3.out rfl
  have x3 := heap_cell (i := 3) HX3.out rfl
  have x4 := heap_cell (i := 4) HX3.out rfl
  have x5 := heap_cell (i := 5) HX3.out rfl
  have x6 := heap_cell (i := 6) HX3.out rfl
  have t0 : ((x : Int) != 0) = true := by rw [bne_iff_ne]; omega
  go_wp2_with fail
  with_reducible refine (scls_any zI _ _ _ (lhid (zI_val _)) (lhid (zI_val _))).mono ?_
  rintro e w6 ⟨rfl, hb⟩
  have HB6 := lhid (HB3.out.trans (below_lt hb HB3.out.size))
  clear hb
  go_wp2_with fail
  go_ret
  exact ⟨rfl, HB6.out⟩
theorem pln_short {p : Bs} (h : Plain p) : p.length ≤ 62 := by
  rcases h with rfl | rfl | ⟨nm, hn, rfl⟩
  · simp
  · simp
  · have := name_len nm _ hn
    simp
    omega
theorem tlen_short (l : Bs) : tlen l ≤ 70 := by
  by_cases h : tlen l = 0
  · omega
  · obtain ⟨k, hk, p, r, hp, _, e⟩ := (tlen_iff l (tlen l)).1 ⟨h, rfl⟩
    have := pln_short hp
    omega
theorem type_short {l : Bs} (h : typeB l = true) : l.length ≤ 70 := by
  rw [type_whole, decide_eq_true_eq] at h
  rw [h.2]
  exact tlen_short l
theorem parm_short {s : Bs} {ps : List Bs} {r : Bs} (h : parm s [] = some (ps, r)) : s.length ≤ 1601 + r.length := by
  refine parm_ind (fun t acc => acc.length ≤ 20 ∧ s.length ≤ 80 * acc.length + t.length) (fun acc r => s.length ≤ 1601 + r.length) ?_ ?_ s.length s [] (Nat.le_refl _) ⟨by simp, by simp⟩ ps r h
  · rintro t acc _ ⟨h1, h2⟩
    simp only [List.length_drop]
    omega
  · rintro t acc _ _ h3 ⟨h1, h2⟩
    have := tlen_short t
    simp only [List.length_append, List.length_cons, List.length_nil, List.length_drop]
    omega
theorem met_short {l : Bs} (h : (metB l).isSome = true) : l.length ≤ 1700 := by
  unfold metB at h
  split at h
  · split at h
    · simp at h
    · rename_i ps r hp
      have h1 := parm_short hp
      simp only [List.length_drop] at h1
      split at h
      · rename_i hr
        rcases hr with rfl | hr
        · simp at h1; omega
        · have := type_short hr; omega
      · simp at h
  · simp at h
theorem tx_max {l : Bs} {n : Nat} (h : l.length ≤ n) (hn : n ≤ 10000) : (tx l).size ≤ maxLen := by rw [tx_size]; unfold maxLen; omega
theorem cl_parts {w : World} {c : ClI} {x0 x1 x2 a p b d : Value} (h : ClIV w c (.agg #[x0, x1, x2, a, p, b, d])) : RdL 3 FlIE w b c.fields ∧ RdL 8 MeIE w d c.methods := by
  obtain ⟨a', p', b', d', e, _, _, h3, h4⟩ := h
  injection e with e
  simp at e
  obtain ⟨_, _, _, _, _, rfl, rfl⟩ := e
  exact ⟨h3, h4⟩
set_option maxHeartbeats 16000000 in
set_option maxRecDepth 100000 in
theorem fbounds_ok (hparse : Hid HParse) (v : Value) (l : Bs) (c : Cls) (r : Bs) (w : World) (h : Hid (RdB w v l)) (hp : Hid (parP l = .ok c r)) (fl : Int) (hfl : (c.flags : Int) = fl) (b1 b2 b3 b4 : Bool) (q1 : (fl == 1536) = b1) (q2 : (fl != 0) = b2) (q3 : (fl != 1024) = b3) (q4 : (fl == 0) = b4) (HB0 : Hid ((fl = 0 ∧ b1 = false ∧ b2 = false ∧ b3 = true ∧ b4 = true) ∨ (fl = 1024 ∧ b1 = false ∧ b2 = true ∧ b3 = false ∧ b4 = false) ∨ (fl = 1536 ∧ b1 = true ∧ b2 = true ∧ b3 = true ∧ b4 = false))) :
    Calls Tryz.prog 5 #[v] w fun e w' => e = .returned (.bool true) ∧ Below w.heap.size w w' := by
  rcases HB0.out with ⟨h3, rfl, rfl, rfl, rfl⟩ | ⟨h3, rfl, rfl, rfl, rfl⟩ | ⟨h3, rfl, rfl, rfl, rfl⟩
  all_goals
    have HF3 := lhid h3
    clear h3 HB0
    have HG := lhid (parP_good hp.out)
    have HS := lhid (parP_good hp.out).small
    go_enter Tryz.func5, Tryz.ntmps5
    go_wp2_with fail
    with_reducible refine (fholds_any hparse w).mono ?_
    rintro e w1 ⟨rfl, hb⟩
    have HB1 := lhid hb
    have HR1 := lhid (rdB_below h.out (rdB_low h.out) hb)
    clear hb
    go_wp2_with fail
    with_reducible refine (parse_any _ l _ HR1).mono ?_
    rintro e w2 ⟨hb, hx⟩
    rw [hp.out] at hx
    obtain ⟨cv, g, rfl, xa, xb, xd, rfl, v1, v2, v3, v4⟩ := hx
    obtain ⟨A1, ae1, rfl⟩ := slO_shape v1
    obtain ⟨A3, ae3, rfl⟩ := slO_shape v3
    obtain ⟨A4, ae4, rfl⟩ := slO_shape v4
    have hv := cl_parts (cls_rd HS.out v1 v2 v3 v4)
    have HB2 := lhid (HB1.out.trans (below_lt hb HB1.out.size))
    have HB3 := lhid (HB2.out.alloc HB2.out.size (.cells #[.int .i64 fl, .string (tx c.name), .string (tx c.super), .slice A1 c.ifaces.length ae1, .slice (some ⟨g, 0, none⟩) c.pool.length c.pool.length, .slice A3 c.fields.length ae3, .slice A4 c.methods.length ae4] 29))
    have hd3 := (Below.refl w2.heap.size w2).alloc (Nat.le_refl _) (.cells #[.int .i64 fl, .string (tx c.name), .string (tx c.super), .slice A1 c.ifaces.length ae1, .slice (some ⟨g, 0, none⟩) c.pool.length c.pool.length, .slice A3 c.fields.length ae3, .slice A4 c.methods.length ae4] 29)
    have lf : (clI c).fields.length = c.fields.length := by simp [clI]
    have lm : (clI c).methods.length = c.methods.length := by simp [clI]
    have HF : Hid (RdL 3 FlIE (w2.alloc (.cells #[.int .i64 fl, .string (tx c.name), .string (tx c.super), .slice A1 c.ifaces.length ae1, .slice (some ⟨g, 0, none⟩) c.pool.length c.pool.length, .slice A3 c.fields.length ae3, .slice A4 c.methods.length ae4] 29)) (.slice A3 c.fields.length ae3) (c.fields.map flI)) := lhid (hv.1.below kept_fl hd3)
    have HM : Hid (RdL 8 MeIE (w2.alloc (.cells #[.int .i64 fl, .string (tx c.name), .string (tx c.super), .slice A1 c.ifaces.length ae1, .slice (some ⟨g, 0, none⟩) c.pool.length c.pool.length, .slice A3 c.fields.length ae3, .slice A4 c.methods.length ae4] 29)) (.slice A4 c.methods.length ae4) (c.methods.map meI)) := lhid (hv.2.below kept_me hd3)
    have HX3 := lhid (heap_alloc_new w2 (.cells #[.int .i64 fl, .string (tx c.name), .string (tx c.super), .slice A1 c.ifaces.length ae1, .slice (some ⟨g, 0, none⟩) c.pool.length c.pool.length, .slice A3 c.fields.length ae3, .slice A4 c.methods.length ae4] 29))
    clear v1 v2 v3 v4 hb hv hd3 lf lm
    have x0 := heap_cell (i := 0) HX3.out rfl
    have x1 := heap_cell (i := 1) HX3.out rfl
    have x2 := heap_cell (i := 2) HX3.out rfl
    have x3 := heap_cell (i := 3) HX3.out rfl
    have x4 := heap_cell (i := 4) HX3.out rfl
    have x5 := heap_cell (i := 5) HX3.out rfl
    have x6 := heap_cell (i := 6) HX3.out rfl
    have HN1 : Hid (nameB (tx c.name).data.toList false = true) := lhid (by rw [tx_list]; exact HG.out.name)
    have HN2 : Hid (nameB (tx c.super).data.toList false = true) := lhid (by rw [tx_list]; exact HG.out.super)
    have HL1 := lhid (name_len _ _ HG.out.name).2
    have HL2 := lhid (name_len _ _ HG.out.super).2
    have l1 : (c.ifaces.length : Int) ≤ 8 := by have := HG.out.ifaces; omega
    have l2 : (c.fields.length : Int) ≤ 60 := by have := HG.out.fields; omega
    have l3 : (c.methods.length : Int) ≤ 60 := by have := HG.out.methods; omega
    have l4 : (c.pool.length : Int) ≤ 1000 := by have := HG.out.pool; omega
    go_wp2_with fail
    with_reducible refine (name_r _ false true _ HN1 (tx_max HL1.out (by omega))).mono ?_
    rintro e w4 ⟨rfl, rfl⟩
    go_wp2_with fail
    with_reducible refine (name_r _ false true _ HN2 (tx_max HL2.out (by omega))).mono ?_
    rintro e w4 ⟨rfl, rfl⟩
    go_wp2_with fail
    clear x0 x1 x2 x3 x4 x5
    go_loopw [77] (fun i wr => ∃ k : Nat, i = .int .i64 k ∧ k ≤ c.fields.length ∧ Hid (Below (w2.alloc (.cells #[.int .i64 fl, .string (tx c.name), .string (tx c.super), .slice A1 c.ifaces.length ae1, .slice (some ⟨g, 0, none⟩) c.pool.length c.pool.length, .slice A3 c.fields.length ae3, .slice A4 c.methods.length ae4] 29)).heap.size (w2.alloc (.cells #[.int .i64 fl, .string (tx c.name), .string (tx c.super), .slice A1 c.ifaces.length ae1, .slice (some ⟨g, 0, none⟩) c.pool.length c.pool.length, .slice A3 c.fields.length ae3, .slice A4 c.methods.length ae4] 29)) wr)) (fun i _ => c.fields.length - (intOf i).toNat)
    case atStart => exact ⟨0, rfl, Nat.zero_le _, lhid (Below.refl _ _)⟩
    case round =>
      obtain ⟨k, rfl, hk, HB⟩ := hrel
      by_cases hlt : k < c.fields.length
      · obtain ⟨f, hf⟩ : ∃ f, c.fields[k]? = some f := ⟨_, List.getElem?_eq_getElem hlt⟩
        have hgf := HG.out.field f (List.mem_of_getElem? hf)
        have HGF := lhid hgf
        obtain ⟨g', o', cc, hA, hE, hc⟩ := (HF.out.below kept_fl HB.out).at' (i := k) (a := flI f) (by rw [List.getElem?_map, hf]; rfl)
        obtain rfl := hE
        obtain rfl := hA
        have p0 : wr.cell? ⟨g', o' + k * 3, none⟩ = some (.int .i64 f.flags) := hc 0 _ rfl
        have p1 : wr.cell? ⟨g', o' + k * 3 + 1, none⟩ = some (.string (tx f.name)) := hc 1 _ rfl
        have p2 : wr.cell? ⟨g', o' + k * 3 + 2, none⟩ = some (.string (tx f.desc)) := hc 2 _ rfl
        have k3 : (k : Int) < c.fields.length := by omega
        have HN : Hid (nameB (tx f.name).data.toList false = true) := lhid (by rw [tx_list]; exact hgf.name)
        have HNL := lhid (name_len _ _ hgf.name).2
        have HT : Hid (typeB (tx f.desc).data.toList = true) := lhid (by rw [tx_list]; exact hgf.desc)
        have HTL := lhid (type_short hgf.desc)
        have HFL := lhid hfl
        clear hc hf
        rcases hgf.flags with hff | hff
        · first
            | exact absurd hff (HGF.out.iface (by have := HFL.out; have := HF3.out; omega))
            | (skip
               have HB9 := lhid (HB.out.alloc HB.out.size (.cells #[.int .i64 0, .string (tx f.name), .string (tx f.desc)] 42))
               clear hgf
               rw [hff] at p0
               clear hff
               go_wp2_with fail
               with_reducible refine (name_r _ false true _ HN (tx_max HNL.out (by omega))).mono ?_
               rintro e w5 ⟨rfl, rfl⟩
               go_wp2_with fail
               with_reducible refine (type_r _ true _ (lhid (tx_max HTL.out (by omega))) HT).mono ?_
               rintro e w5 ⟨rfl, q, rfl⟩
               go_wp2_with fail
               go_roundw
               case rel => exact ⟨k + 1, by go_num, by omega, lhid (Below.drewN' HB9.out _)⟩
               case measure => simp [intOf]; omega)
        · have HB9 := lhid (HB.out.alloc HB.out.size (.cells #[.int .i64 8, .string (tx f.name), .string (tx f.desc)] 42))
          clear hgf
          rw [hff] at p0
          clear hff
          go_wp2_with fail
          with_reducible refine (name_r _ false true _ HN (tx_max HNL.out (by omega))).mono ?_
          rintro e w5 ⟨rfl, rfl⟩
          go_wp2_with fail
          with_reducible refine (type_r _ true _ (lhid (tx_max HTL.out (by omega))) HT).mono ?_
          rintro e w5 ⟨rfl, q, rfl⟩
          go_wp2_with fail
          go_roundw
          case rel => exact ⟨k + 1, by go_num, by omega, lhid (Below.drewN' HB9.out _)⟩
          case measure => simp [intOf]; omega
      · have k3 : ¬ (k : Int) < c.fields.length := by omega
        have x6 := heap_cell (i := 6) ((HB.out.block _ (by simp)).trans HX3.out) rfl
        have hbs := HB.out.size
        go_wp2_with fail
        clear x6
        go_loopw [113] (fun i wr => ∃ k : Nat, i = .int .i64 k ∧ k ≤ c.methods.length ∧ Hid (Below (w2.alloc (.cells #[.int .i64 fl, .string (tx c.name), .string (tx c.super), .slice A1 c.ifaces.length ae1, .slice (some ⟨g, 0, none⟩) c.pool.length c.pool.length, .slice A3 c.fields.length ae3, .slice A4 c.methods.length ae4] 29)).heap.size (w2.alloc (.cells #[.int .i64 fl, .string (tx c.name), .string (tx c.super), .slice A1 c.ifaces.length ae1, .slice (some ⟨g, 0, none⟩) c.pool.length c.pool.length, .slice A3 c.fields.length ae3, .slice A4 c.methods.length ae4] 29)) wr)) (fun i _ => c.methods.length - (intOf i).toNat)
        case atStart => exact ⟨0, rfl, Nat.zero_le _, HB⟩
        case round =>
          clear hk HB
          obtain ⟨k, rfl, hk, HB⟩ := hrel
          by_cases hlt : k < c.methods.length
          · obtain ⟨m, hm⟩ : ∃ m, c.methods[k]? = some m := ⟨_, List.getElem?_eq_getElem hlt⟩
            have hgm := HG.out.method m (List.mem_of_getElem? hm)
            have HGM := lhid hgm
            obtain ⟨g', o', cc, hA, hE, hc⟩ := (HM.out.below kept_me HB.out).at' (i := k) (a := meI m) (by rw [List.getElem?_map, hm]; rfl)
            obtain ⟨xa, xb, xd, rfl, hcode, hrows, hfrs⟩ := hE
            obtain rfl := hA
            obtain ⟨Ac, ac, rfl, _⟩ := rdB_form hcode
            obtain ⟨Ar, ar, rfl⟩ := hrows.shape
            obtain ⟨Af, af, rfl⟩ := hfrs.shape
            have lr : (meI m).rows.length = m.rows.length := by simp [meI]
            have lf : (meI m).frames.length = m.frames.length := by simp [meI]
            have lc : (meI m).code.length = m.code.length := rfl
            rw [lr, lf, lc] at hc
            have p0 : wr.cell? ⟨g', o' + k * 8, none⟩ = some (.int .i64 m.flags) := hc 0 _ rfl
            have p1 : wr.cell? ⟨g', o' + k * 8 + 1, none⟩ = some (.string (tx m.name)) := hc 1 _ rfl
            have p2 : wr.cell? ⟨g', o' + k * 8 + 2, none⟩ = some (.string (tx m.desc)) := hc 2 _ rfl
            have p3 : wr.cell? ⟨g', o' + k * 8 + 3, none⟩ = some (.int .i64 m.stack) := hc 3 _ rfl
            have p4 : wr.cell? ⟨g', o' + k * 8 + 4, none⟩ = some (.int .i64 m.locals) := hc 4 _ rfl
            have p5 : wr.cell? ⟨g', o' + k * 8 + 5, none⟩ = some (.slice Ac m.code.length ac) := hc 5 _ rfl
            have p6 : wr.cell? ⟨g', o' + k * 8 + 6, none⟩ = some (.slice Ar m.rows.length ar) := hc 6 _ rfl
            have p7 : wr.cell? ⟨g', o' + k * 8 + 7, none⟩ = some (.slice Af m.frames.length af) := hc 7 _ rfl
            have k3 : (k : Int) < c.methods.length := by omega
            have HN : Hid (nameB (tx m.name).data.toList true = true) := lhid (by rw [tx_list]; exact hgm.name)
            have HNL := lhid (name_len _ _ hgm.name).2
            have HTL := lhid (met_short hgm.desc)
            obtain ⟨⟨ps, rest⟩, hmet⟩ := Option.isSome_iff_exists.1 hgm.desc
            have HT : Hid (metB (tx m.desc).data.toList = some (ps, rest)) := lhid (by rw [tx_list]; exact hmet)
            have l1 : (m.stack : Int) ≤ 20 := by have := hgm.stack; omega
            have l2 : (m.locals : Int) ≤ 40 := by have := hgm.locals; omega
            have l3 : (m.code.length : Int) ≤ 4000 := by have := hgm.code; omega
            have l4 : (m.rows.length : Int) ≤ 60 := by have := hgm.rows; omega
            have HFL := lhid hfl
            have HXr := lhid ((HB.out.block _ (by simp)).trans HX3.out)
            clear hc hm hcode hrows hfrs lr lf lc hmet
            rcases hgm.flags with hff | hff | hff
            · first
                | exact absurd (hff.symm.trans (HGM.out.iface (by have := HFL.out; have := HF3.out; omega))) (by decide)
                | (skip
                   rw [hff] at p0
                   clear hff hgm
                   go_wp2_with fail
                   with_reducible refine (method_r _ _ _ HT (lhid (tx_max HTL.out (by omega)))).mono ?_
                   rintro e w5 ⟨hb5, v5, rfl, _⟩
                   have HQ : Hid (w5.heap[wr.heap.size]? = some (.cells #[.int .i64 0, .string (tx m.name), .string (tx m.desc), .int .i64 m.stack, .int .i64 m.locals, .slice Ac m.code.length ac, .slice Ar m.rows.length ar, .slice Af m.frames.length af] 47)) := lhid ((hb5.block _ (by simp)).trans (heap_alloc_new wr _))
                   have hbx := ((Below.refl wr.heap.size wr).alloc (Nat.le_refl _) (.cells #[.int .i64 0, .string (tx m.name), .string (tx m.desc), .int .i64 m.stack, .int .i64 m.locals, .slice Ac m.code.length ac, .slice Ar m.rows.length ar, .slice Af m.frames.length af] 47)).trans (hb5.mono (by simp))
                   have HB9 := lhid (HB.out.trans (hbx.mono HB.out.size))
                   have HX9 := lhid ((hbx.block _ (heap_lt HXr.out)).trans HXr.out)
                   have x0 := heap_cell (i := 0) HX9.out rfl
                   have q0 := heap_cell (i := 0) HQ.out rfl
                   have q1 := heap_cell (i := 1) HQ.out rfl
                   have q2 := heap_cell (i := 2) HQ.out rfl
                   have q3 := heap_cell (i := 3) HQ.out rfl
                   have q4 := heap_cell (i := 4) HQ.out rfl
                   have q5 := heap_cell (i := 5) HQ.out rfl
                   have q6 := heap_cell (i := 6) HQ.out rfl
                   have q7 := heap_cell (i := 7) HQ.out rfl
                   clear hb5 hbx p0 p1 p2 p3 p4 p5 p6 p7
                   go_wp2_with fail
                   with_reducible refine (name_r _ true true _ HN (tx_max HNL.out (by omega))).mono ?_
                   rintro e w6 ⟨rfl, rfl⟩
                   go_wp2_with fail
                   go_roundw
                   case rel => exact ⟨k + 1, by go_num, by omega, HB9⟩
                   case measure => simp [intOf]; omega)
            · first
                | exact absurd (hff.symm.trans (HGM.out.iface (by have := HFL.out; have := HF3.out; omega))) (by decide)
                | (skip
                   rw [hff] at p0
                   clear hff hgm
                   go_wp2_with fail
                   with_reducible refine (method_r _ _ _ HT (lhid (tx_max HTL.out (by omega)))).mono ?_
                   rintro e w5 ⟨hb5, v5, rfl, _⟩
                   have HQ : Hid (w5.heap[wr.heap.size]? = some (.cells #[.int .i64 8, .string (tx m.name), .string (tx m.desc), .int .i64 m.stack, .int .i64 m.locals, .slice Ac m.code.length ac, .slice Ar m.rows.length ar, .slice Af m.frames.length af] 47)) := lhid ((hb5.block _ (by simp)).trans (heap_alloc_new wr _))
                   have hbx := ((Below.refl wr.heap.size wr).alloc (Nat.le_refl _) (.cells #[.int .i64 8, .string (tx m.name), .string (tx m.desc), .int .i64 m.stack, .int .i64 m.locals, .slice Ac m.code.length ac, .slice Ar m.rows.length ar, .slice Af m.frames.length af] 47)).trans (hb5.mono (by simp))
                   have HB9 := lhid (HB.out.trans (hbx.mono HB.out.size))
                   have HX9 := lhid ((hbx.block _ (heap_lt HXr.out)).trans HXr.out)
                   have x0 := heap_cell (i := 0) HX9.out rfl
                   have q0 := heap_cell (i := 0) HQ.out rfl
                   have q1 := heap_cell (i := 1) HQ.out rfl
                   have q2 := heap_cell (i := 2) HQ.out rfl
                   have q3 := heap_cell (i := 3) HQ.out rfl
                   have q4 := heap_cell (i := 4) HQ.out rfl
                   have q5 := heap_cell (i := 5) HQ.out rfl
                   have q6 := heap_cell (i := 6) HQ.out rfl
                   have q7 := heap_cell (i := 7) HQ.out rfl
                   clear hb5 hbx p0 p1 p2 p3 p4 p5 p6 p7
                   go_wp2_with fail
                   with_reducible refine (name_r _ true true _ HN (tx_max HNL.out (by omega))).mono ?_
                   rintro e w6 ⟨rfl, rfl⟩
                   go_wp2_with fail
                   go_roundw
                   case rel => exact ⟨k + 1, by go_num, by omega, HB9⟩
                   case measure => simp [intOf]; omega)
            · first
                | exact absurd (by have := HFL.out; have := HF3.out; omega) (HGM.out.bare hff).1
                | (skip
                   have hb := HGM.out.bare hff
                   have HZ := lhid hb
                   rw [hff] at p0
                   clear hff hgm hb
                   go_wp2_with fail
                   with_reducible refine (method_r _ _ _ HT (lhid (tx_max HTL.out (by omega)))).mono ?_
                   rintro e w5 ⟨hb5, v5, rfl, _⟩
                   have HQ : Hid (w5.heap[wr.heap.size]? = some (.cells #[.int .i64 1024, .string (tx m.name), .string (tx m.desc), .int .i64 m.stack, .int .i64 m.locals, .slice Ac m.code.length ac, .slice Ar m.rows.length ar, .slice Af m.frames.length af] 47)) := lhid ((hb5.block _ (by simp)).trans (heap_alloc_new wr _))
                   have hbx := ((Below.refl wr.heap.size wr).alloc (Nat.le_refl _) (.cells #[.int .i64 1024, .string (tx m.name), .string (tx m.desc), .int .i64 m.stack, .int .i64 m.locals, .slice Ac m.code.length ac, .slice Ar m.rows.length ar, .slice Af m.frames.length af] 47)).trans (hb5.mono (by simp))
                   have HB9 := lhid (HB.out.trans (hbx.mono HB.out.size))
                   have HX9 := lhid ((hbx.block _ (heap_lt HXr.out)).trans HXr.out)
                   have x0 := heap_cell (i := 0) HX9.out rfl
                   have q0 := heap_cell (i := 0) HQ.out rfl
                   have q1 := heap_cell (i := 1) HQ.out rfl
                   have q2 := heap_cell (i := 2) HQ.out rfl
                   have q3 := heap_cell (i := 3) HQ.out rfl
                   have q4 := heap_cell (i := 4) HQ.out rfl
                   have q5 := heap_cell (i := 5) HQ.out rfl
                   have q6 := heap_cell (i := 6) HQ.out rfl
                   have q7 := heap_cell (i := 7) HQ.out rfl
                   clear hb5 hbx p0 p1 p2 p3 p4 p5 p6 p7
                   have n1 : m.stack = 0 := HZ.out.2.1
                   have n2 : m.locals = 0 := HZ.out.2.2.1
                   have n3 : m.code.length = 0 := by rw [HZ.out.2.2.2.1]; rfl
                   have n4 : m.rows.length = 0 := by rw [HZ.out.2.2.2.2.1]; rfl
                   have n5 : m.frames.length = 0 := by rw [HZ.out.2.2.2.2.2]; rfl
                   rw [n1] at q3 l1
                   rw [n2] at q4 l2
                   rw [n3] at q5 l3
                   rw [n4] at q6 l4
                   rw [n5] at q7
                   clear n1 n2 n3 n4 n5
                   go_wp2_with fail
                   with_reducible refine (name_r _ true true _ HN (tx_max HNL.out (by omega))).mono ?_
                   rintro e w6 ⟨rfl, rfl⟩
                   go_wp2_with fail
                   go_roundw
                   case rel => exact ⟨k + 1, by go_num, by omega, HB9⟩
                   case measure => simp [intOf]; omega)
          · have k3 : ¬ (k : Int) < c.methods.length := by omega
            have HB9 := lhid (HB3.out.trans (HB.out.mono HB3.out.size))
            go_wp2_with fail
            go_ret
            exact ⟨rfl, HB9.out⟩
theorem parP_er {l : Bs} {x : Nat} (h : parP l = .er x) : x ≠ 0 := by
  unfold parP at h
  split at h
  · injection h with h; omega
  unfold filP at h
  split at h
  · injection h with h; omega
  split at h
  · rename_i hx; injection h with h; rw [← h]; exact hx
  · rename_i hx
    have := lk_file (l.drop 4) (by simpa using hx) (poolS (l.drop 4, false)).1
    rw [h] at this
    exact this.1
theorem FileBounds_walk (hparse : Hid HParse) (v : Value) (l : Bs) (w : World) (h : RdB w v l) :
    Calls Tryz.prog 5 #[v] w fun e w' => e = .returned (.bool true) ∧ Below w.heap.size w w' := by
  cases hp : parP l with
  | er x => exact fbounds_er hparse v l x w (lhid h) (lhid hp) (parP_er hp)
  | ok c r =>
    exact fbounds_ok hparse v l c r w (lhid h) (lhid hp) c.flags rfl _ _ _ _ rfl rfl rfl rfl (lhid (by rcases (parP_good hp).flags with e | e | e <;> rw [e] <;> simp))
end Go.Proofs.YtdlmadckpcnkoaaGreat
