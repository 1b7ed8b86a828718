/- Package check: Method's steps, one behind the other. -/
import Derived.Test.YtpdnonlelocfbaaGreatDoorJChkBgn
import Derived.Test.YtpdnonlelocfbaaGreatDoorJChkTake
namespace Go.Proofs.YtpdnonlelocfbaaGreatDoor
open Go.RowKit Go Go.Maps
set_option linter.unusedVariables false
/-- What Method is called with, and what it has made when its steps begin. -/
structure MC (E : Chk) (w W6 : World) (c fb fnb : Nat) (F : Fx) (L : Bs) (rows : List RwI) (frames : List FrI) (de : Int) (dp : List Bs) : Prop where
  env : Env E F.tb w
  good : E.Good
  b6 : Below w.heap.size w W6
  f1 : w.heap.size ≤ fb
  c1 : c = fb + 2
  n1 : fnb = fb + 3
  z6 : W6.heap.size = fb + 4
  cb : F.cb = fb + 1
  fbE : F.fb = fb
  it : W6.heap[c]? = some (.cells (ckA F (.slice none 0 0) (.slice none 0 0) false 0 (.slice none 0 0)) 107 (0, 0))
  mi : MI W6 fb 0 (fun _ => none)
  mv : MV W6 (fb + 1) 0 (fun _ => none)
  pool : RdX (fun g => g < w.heap.size) 5 CoE w F.cp E.pool
  code : Cd.Bts w F.mc L
  mcS : ∃ A5 c5, F.mc = .slice A5 L.length c5
  row : RdX (fun g => g < w.heap.size) 4 RwE w F.mr rows
  frs : RdX (fun g => g < w.heap.size) 3 (FrE fun g => g < w.heap.size) w F.mfr frames
  ms : I6 F.ms
  ml : I6 F.ml
  cn : F.cn.length ≤ ML
  own : E.of F.cn = E.own
  room : 0 ≤ F.ms → F.ms ≤ 20 → F.ms = E.room
  ko : bStat F.mf = false → E.known E.own = true
  desc : ∀ w', Calls Tryz.prog 95 #[.string (tx F.md)] w' fun e w'' => ∃ v, e = .returned (.tuple #[v, .string (tx E.gives), .int .i64 de]) ∧ w''.ownsRow w'.heap.size 9 1 v dp.length (lnV dp) ∧ Below w'.heap.size w' w''
  dl : dp.length ≤ 20
  ds : ∀ t ∈ dp, t.length ≤ ML
  fr : ∀ f ∈ frames, I6 f.pc ∧ (∀ t ∈ f.locals, t.length ≤ ML) ∧ ∀ t ∈ f.stack, t.length ≤ ML
  ri : ∀ x ∈ rows, I6 x.at_ ∧ x.cls.length ≤ 4294967296
/-- Behind step 1. -/
structure MS1 (E : Chk) (w W6 : World) (c : Nat) (F : Fx) (L : Bs) (loc : List Bs) (wr : World) : Prop where
  ch : Ch (fun k => k = c) W6 wr
  it : ∃ vo vl, wr.heap[c]? = some (.cells (ckA { F with ops := vo, gives := E.gives } vl (.slice none 0 0) true 0 (.slice none 0 0)) 107 (0, 0)) ∧
    RdX (fun k => vo.ownBlock = some k) 4 OpE wr vo ((Cd.decR L).2.map opxOf) ∧ (∀ k, vo.ownBlock = some k → W6.heap.size ≤ k ∧ k < wr.heap.size ∧ vl.ownBlock ≠ some k) ∧ wr.ownsRow W6.heap.size 9 1 vl loc.length (lnV loc)
/-- The blocks that may change behind it. -/
def ZM (w : World) (fb fnb : Nat) (vo : Value) (b : Nat) : Prop := w.heap.size ≤ b ∧ b ≠ fb ∧ b ≠ fnb ∧ vo.ownBlock ≠ some b
/-- Behind steps 2 and 3. -/
structure MS2 (E : Chk) (w : World) (c fb fnb : Nat) (F : Fx) (L : Bs) (loc : List Bs) (M : Nat) (fs : List Fm) (wr : World) : Prop where
  it : ∃ (vo : Value) (D : Nat → Prop), (∀ k, vo.ownBlock = some k → fnb < k) ∧ (∀ b, D b → ZM w fb fnb vo b ∧ b < wr.heap.size) ∧ RdX (fun k => vo.ownBlock = some k) 4 OpE wr vo ((Cd.decR L).2.map opxOf) ∧
    Ck E (fun b => ZM w fb fnb vo b ∧ ¬ D b) w c { F with ops := vo, gives := E.gives } 0 ⟨loc, [], 0⟩ true (.slice none 0 0) wr ∧ FM (fun k => k < w.heap.size ∨ D k) wr fb M fs
/-- Behind steps 4 and 5. -/
structure MS4 (E : Chk) (w : World) (c fnb : Nat) (kn : Bool) (L : List Sta) (wr : World) : Prop where
  it : ∃ (Z : Nat → Prop) (F : Fx) (N : Nat) (s : Cs) (st : Value) (D : Nat → Prop), Ck E Z w c F N s kn st wr ∧ ¬ Z fnb ∧ Sts D w.heap.size wr st L ∧ ∀ b, D b → ¬ Z b
section
variable {E : Chk} {w W6 : World} {c fb fnb : Nat} {F : Fx} {L : Bs} {rows : List RwI} {frames : List FrI} {de : Int} {dp : List Bs}
theorem m_begin (h : MC E w W6 c fb fnb F L rows frames de dp) : Calls Tryz.prog 48 #[.pointer (some ⟨c, 0, none⟩)] W6 fun e w' => e = .returned (.int .i64 (bgE E (Cd.decR L).1 F.ms F.ml (de, dp) (bStat F.mf))) ∧ Below w.heap.size w w' ∧ w'.heap[fnb]? = W6.heap[fnb]? ∧
    (bgE E (Cd.decR L).1 F.ms F.ml (de, dp) (bStat F.mf) = 0 → MS1 E w W6 c F L (fill (firstLoc E (bStat F.mf) dp) F.ml.toNat) w') := by
  refine (begin_c (lhid h.env) (lhid h.b6) (lhid h.it) (lhid (h.code.below h.b6)) h.ms h.ml h.cn h.own (lhid h.desc) h.dl (lhid h.ds)).mono ?_
  rintro e w' ⟨rfl, hch, hok⟩
  have h1 := h.f1
  have h2 := h.c1
  have h3 := h.n1
  have h4 := h.z6
  refine ⟨rfl, h.b6.trans (hch.to h.b6.size (fun k hk => by omega)), hch.block _ (by omega) (by omega), fun h0 => ?_⟩
  obtain ⟨vo, vl, q1, q2, q3, q4⟩ := hok h0
  exact ⟨hch, vo, vl, q1, q2, q3, q4⟩
theorem dec_io (h0 : (Cd.decR L).1 = 0) : DecOK L (Cd.decR L).2 := decOK h0
theorem m_fit (h : MC E w W6 c fb fnb F L rows frames de dp) (hb : 0 ≤ F.ms ∧ F.ms ≤ 20) (vo : Value) : Fit E { F with ops := vo, gives := E.gives } w :=
  ⟨h.room hb.1 hb.2, h.own, rfl, ⟨_, h.pool, fun g hg => hg⟩, h.cn⟩
theorem loc_small (h : MC E w W6 c fb fnb F L rows frames de dp) (n : Nat) : ∀ t ∈ fill (firstLoc E (bStat F.mf) dp) n, t.length ≤ ML := fun t ht => by
  rcases fill_mem ht with ht | rfl
  · unfold firstLoc at ht
    split at ht
    · exact h.ds t ht
    · rcases List.mem_cons.1 ht with rfl | ht
      · exact h.env.l_own
      · exact h.ds t ht
  · exact Nat.zero_le _
theorem m_take (h : MC E w W6 c fb fnb F L rows frames de dp) {wr : World} (hbw : Below w.heap.size w wr) (hbg : bgE E (Cd.decR L).1 F.ms F.ml (de, dp) (bStat F.mf) = 0) (hs : MS1 E w W6 c F L (fill (firstLoc E (bStat F.mf) dp) F.ml.toNat) wr) :
    Calls Tryz.prog 49 #[.pointer (some ⟨c, 0, none⟩)] wr fun e w' => e = .returned (.int .i64 (takeF E F.ml.toNat (decI L).2 frames (-1) []).1) ∧ Below w.heap.size w w' ∧ w'.heap[fnb]? = wr.heap[fnb]? ∧
      ((takeF E F.ml.toNat (decI L).2 frames (-1) []).1 = 0 → MS2 E w c fb fnb F L (fill (firstLoc E (bStat F.mf) dp) F.ml.toNat) frames.length (takeF E F.ml.toNat (decI L).2 frames (-1) []).2 w') := by
  obtain ⟨hch, vo, vl, q1, q2, q3, q4⟩ := hs
  obtain ⟨g0, ⟨g1, g2, g3, g4⟩, g5, g6, g7⟩ := bgE_zero hbg
  have hdk := decOK g0
  have h1 := h.f1
  have h2 := h.c1
  have h3 := h.n1
  have h4 := h.z6
  have h5 := h.fbE
  have hsz := hch.size
  have hvo : ∀ k, vo.ownBlock = some k → fnb < k := fun k hk => by have := (q3 k hk).1; omega
  have hvl : ∀ k, vl.ownBlock = some k → W6.heap.size ≤ k ∧ k < wr.heap.size := fun k hk => q4.lt k hk
  have hK : Ck E (ZM w fb fnb vo) w c { F with ops := vo, gives := E.gives } 0 ⟨fill (firstLoc E (bStat F.mf) dp) F.ml.toNat, [], 0⟩ true (.slice none 0 0) wr := by
    refine ⟨hbw, fun k hk => hk.1, fun k hk => ⟨by omega, by omega, by omega, fun e => by have := (q3 k e).2.1; omega⟩, ⟨by omega, by omega, by omega, fun e => by have := (q3 c e).1; omega⟩, ?_, ⟨vl, .slice none 0 0, q1, ⟨own_base q4 (by omega), fun k hk => ?_, loc_small h _⟩, ⟨World.ownsRow_nil _ _ _ _, fun k hk => (by cases hk), fun t ht => (by cases ht)⟩, fun k _ e => (by cases e)⟩, ?_⟩
    · show ZM w fb fnb vo F.cb
      rw [h.cb]
      exact ⟨by omega, by omega, by omega, fun e => by have := (q3 _ e).1; omega⟩
    · have := hvl k hk
      exact ⟨by omega, by omega, by omega, fun e => (q3 k e).2.2 hk⟩
    · show AskV E wr F.cb 0
      rw [h.cb]
      exact ⟨0, _, Nat.le_refl _, h.mv.of (hch.block _ (by omega) (by omega)), fun s => .inl rfl⟩
  have hF := m_fit h ⟨g1, g2⟩ vo
  have hFM : FM (fun k => k < w.heap.size) wr fb 0 [] := ⟨0, _, Nat.le_refl _, h.mi.of (hch.block _ (by omega) (by omega)), fun pc _ => rfl⟩
  have hfr : RdX (fun g => g < w.heap.size) 3 (FrE fun g => g < w.heap.size) wr F.mfr frames := h.frs.below (keptX_fr _) hbw
  have key := takeFrames_c (F := { F with ops := vo, gives := E.gives }) (n := F.ml.toNat) (P := fun k => k < w.heap.size) (Po := fun k => vo.ownBlock = some k) (lhid h.env) (lhid hF) (lhid hK) (fun hz => hz.2.1 h5) (by show w.heap.size ≤ F.fb; omega) (fun k hk hz => by
      rcases hz with hz | hz
      · have := hz.1; omega
      · have hz' : k = F.fb := hz
        omega) (lhid (by show FM _ wr F.fb 0 []; rw [h5]; exact hFM)) (lhid q2) (fun k hk hz => by
      rcases hz with hz | hz
      · exact hz.2.2.2 hk
      · have hz' : k = F.fb := hz
        have := hvo k hk
        omega) hdk.sort hdk.beg (by show F.ml = _; omega) (by omega) (lhid hfr) h.fr
  refine key.mono ?_
  rintro e w' ⟨rfl, hc2, hok⟩
  have hc3 : Ch (fun k => ZM w fb fnb vo k ∨ k = fb) wr w' := by
    have : ({ F with ops := vo, gives := E.gives } : Fx).fb = fb := h5
    rw [this] at hc2
    exact hc2
  refine ⟨rfl, hbw.trans (hc3.to hbw.size (fun k hk => by
    rcases hk with hk | hk
    · exact hk.1
    · omega)), hc3.block _ (by omega) (fun hk => by
    rcases hk with hk | hk
    · exact hk.2.2.1 rfl
    · omega), fun h0 => ?_⟩
  obtain ⟨D, k1, k2, k3⟩ := hok h0
  refine ⟨vo, D, hvo, k1, q2.kept (keptX_op _) (fun g hg hs => hc3.block g hs (fun hk => by
    rcases hk with hk | hk
    · exact hk.2.2.2 hg
    · have := hvo g hg; omega)), k2, ?_⟩
  have : FM (fun k => k < w.heap.size ∨ D k) w' F.fb frames.length (takeF E F.ml.toNat (decI L).2 frames (-1) []).2 := k3
  rw [h5] at this
  exact this
theorem MS2.below {loc : List Bs} {M : Nat} {fs : List Fm} {wr w' : World} (h : MS2 E w c fb fnb F L loc M fs wr) (hb : Below wr.heap.size wr w') : MS2 E w c fb fnb F L loc M fs w' := by
  obtain ⟨vo, D, k1, k2, k3, k4, k5⟩ := h
  exact ⟨vo, D, k1, fun b hb2 => ⟨(k2 b hb2).1, Nat.lt_of_lt_of_le (k2 b hb2).2 hb.size⟩, k3.kept (keptX_op _) (fun g _ hs => hb.block g hs), k4.below hb, k5.ch (Z := fun _ => False) (Ch.of hb) (fun h => h) (fun _ _ h => h)⟩
theorem fs_small (h : MC E w W6 c fb fnb F L rows frames de dp) (n : Nat) (ops : List Ins) : ∀ f ∈ (takeF E n ops frames (-1) []).2, (∀ t ∈ f.loc, t.length ≤ ML) ∧ ∀ t ∈ f.stk, t.length ≤ ML :=
  takeF_all (Q := fun f => (∀ t ∈ f.loc, t.length ≤ ML) ∧ ∀ t ∈ f.stk, t.length ≤ ML) frames (-1) [] (fun f hf => by cases hf) fun x hx => ⟨fun t ht => by
    rcases fill_mem ht with ht | rfl
    · exact (h.fr x hx).2.1 t ht
    · exact Nat.zero_le _, (h.fr x hx).2.2⟩
theorem m_rows (h : MC E w W6 c fb fnb F L rows frames de dp) {wr : World} (hbw : Below w.heap.size w wr) (hn : fnb < wr.heap.size) (hbg : bgE E (Cd.decR L).1 F.ms F.ml (de, dp) (bStat F.mf) = 0) (ht : (takeF E F.ml.toNat (decI L).2 frames (-1) []).1 = 0) {loc : List Bs} {M : Nat} (hs : MS2 E w c fb fnb F L loc M (takeF E F.ml.toNat (decI L).2 frames (-1) []).2 wr) :
    Calls Tryz.prog 50 #[.pointer (some ⟨c, 0, none⟩)] wr fun e w' => e = .returned (.int .i64 (rowsE E (decI L).2 (takeF E F.ml.toNat (decI L).2 frames (-1) []).2 L.length rows)) ∧ Below w.heap.size w w' ∧ w'.heap[fnb]? = wr.heap[fnb]? ∧
      MS2 E w c fb fnb F L loc M (takeF E F.ml.toNat (decI L).2 frames (-1) []).2 w' := by
  have hs' := hs
  obtain ⟨vo, D, k1, k2, k3, k4, k5⟩ := hs
  obtain ⟨g0, ⟨g1, g2, g3, g4⟩, g5, g6, g7⟩ := bgE_zero hbg
  have hdk := decOK g0
  have h5 := h.fbE
  obtain ⟨A5, c5, hmc⟩ := h.mcS
  have hFO := takeF_ok (E := E) (n := F.ml.toNat) (ops := (decI L).2) frames (-1) [] (by simp) ht
  have hroom := h.env.l_room
  have key := checkRows_c (F := { F with ops := vo, gives := E.gives }) (len := L.length) (P := fun k => k < w.heap.size ∨ D k) (Po := fun k => vo.ownBlock = some k) (Pr := fun g => g < w.heap.size) (lhid h.env) (lhid k4) (lhid (by show FM _ wr F.fb M _; rw [h5]; exact k5)) (fun hz => hz.1.2.1 h5)
    (fun k hk hz => by
      rcases hk with hk | hk
      · have := hz.1.1; omega
      · exact hz.2 hk) (lhid k3) hdk.sort hdk.beg hmc (lhid (h.row.kept (fun _ _ _ _ _ h => h) fun g hg hs => hbw.block g hg)) h.ri (fun f hf => ⟨by have := (hFO f hf).room; omega, (fs_small h _ _ f hf).2⟩)
  refine key.mono ?_
  rintro e w' ⟨rfl, hb⟩
  exact ⟨rfl, hbw.trans (Below.less hb hbw.size), hb.block _ hn, hs'.below hb⟩
theorem walkC_er {fs : List Fm} {v : Int} : ∀ (l : List Ins) (kn : Bool) (s : Cs) (acc : List Sta), walkC E fs rows l kn s acc = .er v → v ≠ 0
  | [], kn, s, acc, h => by
    unfold walkC at h
    cases h
  | o :: r, kn, s, acc, h => by
    unfold walkC at h
    dsimp only at h
    split at h
    · rename_i h1
      injection h with h
      exact h ▸ h1
    split at h
    · rename_i h1
      injection h with h
      exact h ▸ h1
    split at h
    · rename_i h1
      injection h with h
      exact h ▸ h1
    exact walkC_er r _ _ _ h
/-- What the walk answers, for Method. -/
def WkR (E : Chk) (w : World) (c fnb : Nat) (x : Wk) (e : Ending) (w' : World) : Prop :=
  match x with
  | .er v => e = .returned (.int .i64 v) ∧ v ≠ 0
  | .ok kn l => e = .returned (.int .i64 0) ∧ MS4 E w c fnb kn l w'
theorem m_walk (h : MC E w W6 c fb fnb F L rows frames de dp) {wr : World} (hbw : Below w.heap.size w wr) (hn : fnb < wr.heap.size) (hbg : bgE E (Cd.decR L).1 F.ms F.ml (de, dp) (bStat F.mf) = 0) (ht : (takeF E F.ml.toNat (decI L).2 frames (-1) []).1 = 0) {M : Nat} (hs : MS2 E w c fb fnb F L (fill (firstLoc E (bStat F.mf) dp) F.ml.toNat) M (takeF E F.ml.toNat (decI L).2 frames (-1) []).2 wr) :
    Calls Tryz.prog 51 #[.pointer (some ⟨c, 0, none⟩)] wr fun e w' => Below w.heap.size w w' ∧ w'.heap[fnb]? = wr.heap[fnb]? ∧
      WkR E w c fnb (walkC E (takeF E F.ml.toNat (decI L).2 frames (-1) []).2 rows (decI L).2 true ⟨fill (firstLoc E (bStat F.mf) dp) F.ml.toNat, [], 0⟩ []) e w' := by
  obtain ⟨vo, D, k1, k2, k3, k4, k5⟩ := hs
  obtain ⟨g0, ⟨g1, g2, g3, g4⟩, g5, g6, g7⟩ := bgE_zero hbg
  have hdk := decOK g0
  have h5 := h.fbE
  have hFO := takeF_ok (E := E) (n := F.ml.toNat) (ops := (decI L).2) frames (-1) [] (by simp) ht
  have hty : ∀ t ∈ (firstLoc E (bStat F.mf) dp), E.known t = true := by
    intro t hm
    unfold firstLoc at hm
    split at hm
    · exact g6 t hm
    · rename_i hst
      rcases List.mem_cons.1 hm with rfl | hm
      · exact h.ko (by simpa using hst)
      · exact g6 t hm
  have hS : Cs.OK E F.ml.toNat ⟨fill (firstLoc E (bStat F.mf) dp) F.ml.toNat, [], 0⟩ :=
    ⟨fill_len _ _, fun t hm => (by
      rcases fill_mem hm with hm | rfl
      · exact .inr (.inr (hty t hm))
      · exact .inl rfl), Nat.zero_le _, fun t hm => (by cases hm)⟩
  have hF := m_fit h ⟨g1, g2⟩ vo
  have key := walk_c (F := { F with ops := vo, gives := E.gives }) (P := fun k => k < w.heap.size ∨ D k) (Po := fun k => vo.ownBlock = some k) (Pr := fun g => g < w.heap.size) (ops := (decI L).2) (lhid h.env) (lhid hF) h.good (n := F.ml.toNat) (by omega) (lhid k4) hS rfl (lhid (by show FM _ wr F.fb M _; rw [h5]; exact k5)) (fun hz => hz.1.2.1 h5)
    (fun k hk hz => by
      rcases hk with hk | hk
      · have := hz.1.1; omega
      · exact hz.2 hk) (lhid (h.row.kept (fun _ _ _ _ _ h => h) fun g hg hs => hbw.block g hg)) (fun k hk hz => by have := hz.1.1; omega) (lhid k3) (fun k hk hz => hz.1.2.2.2 hk) (by show List.length (List.map insOf _) = _; rw [List.length_map, List.length_map]) hdk.ins (by rw [List.length_map]; have := hdk.len; omega) (by omega) hFO (fs_small h _ _) (fun x hx => (h.ri x hx).1)
  refine key.mono ?_
  intro e w' hw
  cases hwk : walkC E (takeF E F.ml.toNat (decI L).2 frames (-1) []).2 rows (decI L).2 true ⟨fill (firstLoc E (bStat F.mf) dp) F.ml.toNat, [], 0⟩ [] with
  | er v =>
    rw [hwk] at hw
    obtain ⟨rfl, hch⟩ := hw
    exact ⟨hbw.trans (hch.to hbw.size (fun k hk => hk.1.1)), hch.block _ hn (fun hk => hk.1.2.2.1 rfl), rfl, walkC_er _ _ _ _ hwk⟩
  | ok kn l =>
    rw [hwk] at hw
    obtain ⟨rfl, hch, N, s, st, D', q1, q2⟩ := hw
    exact ⟨hbw.trans (hch.to hbw.size (fun k hk => hk.1.1)), hch.block _ hn (fun hk => hk.1.2.2.1 rfl), rfl, _, _, N, s, st, D', q1, fun hz => hz.1.1.2.2.1 rfl, q2, fun b hb hz => hz.2 hb⟩
theorem m_end {kn : Bool} {l : List Sta} {wr : World} (hbw : Below w.heap.size w wr) (hn : fnb < wr.heap.size) (hs : MS4 E w c fnb kn l wr) :
    Calls Tryz.prog 52 #[.pointer (some ⟨c, 0, none⟩)] wr fun e w' => e = .returned (.int .i64 (if kn then 60 else 0)) ∧ Below w.heap.size w w' ∧ w'.heap[fnb]? = wr.heap[fnb]? ∧ MS4 E w c fnb kn l w' := by
  obtain ⟨Z, F, N, s, st, D, q1, q2, q3, q4⟩ := hs
  refine (checkEnd_c (lhid q1)).mono ?_
  rintro e w' ⟨rfl, hk, hch⟩
  exact ⟨rfl, hk.std, hch.block _ hn q2, Z, F, N, s, st, D, hk, q2, q3.kept (fun g hg hs => hch.block g hs (q4 g hg)), q4⟩
end
end Go.Proofs.YtpdnonlelocfbaaGreatDoor
