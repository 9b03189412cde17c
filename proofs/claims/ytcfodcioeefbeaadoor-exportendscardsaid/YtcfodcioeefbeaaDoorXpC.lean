import Derived.Test.YtcfodcioeefbeaaDoorXpB
namespace Go.Proofs.YtcfodcioeefbeaaDoor.X
open Go.RowKit Go.Maps
set_option linter.unusedVariables false
set_option linter.unusedSimpArgs false

def calmX (Q : Exit → Act → World → Prop) : Exit → Act → World → Prop
  | .panic _, _, _ => False
  | e, a, w => Q e a w
theorem calmX_le {Q : Exit → Act → World → Prop} {e : Exit} {a : Act} {w : World} (h : calmX Q e a w) : Q e a w := by
  cases e <;> first | exact h | exact h.elim
/-- What Sent starts. -/
def snO (O : List Oc) (c : Int) : Bool := O.any fun o => decide (o.p.chk = c)
/-- What Sent leaves, of a segment of its session. -/
def SnP (w : World) (e m rm c : Nat) (s : Xs) (O : List Oc) (g : Sg) (r : Ending) (w' : World) : Prop := ∃ sv, r = .returned (.agg (mvC (.slice none 0 0) (.slice none 0 0) sv (sntB s g) false false 0)) ∧ w'.ownsRow w.heap.size 3 1 sv (if snO O g.chk = true then 1 else 0) (if snO O g.chk = true then [.int .i64 g.chk] else []) ∧ Xm w' e m rm c { s with gone := s.gone || sntB s g } (upO g.chk (wtO false) O) ∧ Kl (XF e m O) w w'
theorem snO_no {O : List Oc} {c : Int} (h : ∀ o ∈ O, o.p.chk ≠ c) : snO O c = false := by
  unfold snO
  rw [List.any_eq_false]
  intro o ho
  simpa using h o ho
theorem snp_end {w W6 W9 : World} {e m rm c b n : Nat} {s s' : Xs} {O O5 : List Oc} {g : Sg} {sv : Value} {xs : List Value} {B8 : Bool} (he : e < b) (hm : m < b) (hX : Xm w e m rm c s O) (hO : O5 = upO g.chk (wtO false) O) (hn : n = (if snO O g.chk = true then 1 else 0)) (hxs : xs = (if snO O g.chk = true then [.int .i64 g.chk] else []))
    (x6 : Xm W6 e m rm c s' O5) (k6 : Kl (XF e m O) w W6) (hz : W6.heap[b + 1]? = some mvZ) (r6 : W6.ownsRow b 3 1 sv n xs) (hg : W6.grownBy W9 (some (b + 1))) (hb : w.heap.size = b) (hB : sntB s g = B8) (hs : s' = { s with gone := s.gone || B8 }) :
    SnP w e m rm c s O g (.returned (.agg (mvC (.slice none 0 0) (.slice none 0 0) sv B8 false false 0))) W9 := by
  have nx : ∀ g', XF e m O5 g' → g' < b := fun g' hg' => by
    have q : XF e m O g' := by rw [hO] at hg'; exact (xf_up (f := wtO false) (fun _ => rfl)).mp hg'
    have := hX.lt g' q
    omega
  refine ⟨sv, by rw [hB], ?_, ?_, ?_⟩
  · rw [hb, ← hn, ← hxs]
    exact own_at r6 (fun g' hg' => hg.block g' (World.ownsRow.lt r6 g' hg').2 (fun e => apart_of r6 hg' hz (by decide) (Option.some.inj e)))
  · rw [hB, ← hs, ← hO]
    exact x6.keep (S := fun g' => g' = b + 1) ⟨hg.os, hg.tape, hg.output, hg.size, fun g' hl hn => hg.block g' hl (fun e => hn (Option.some.inj e))⟩ (fun g' hg' e => by have := nx g' hg'; omega)
  · exact k6.grown hg (fun k e => .inr (by have := Option.some.inj e; omega))
set_option maxRecDepth 8000 in
set_option maxHeartbeats 8000000 in
theorem sent_own {w : World} {e m rm c : Nat} {s : Xs} {O : List Oc} (h : Xm w e m rm c s O) (g : Sg) (hv tv dv cv : Value) (h1 : g.org = s.k.org) (h2 : g.num = s.k.num) (hw : iW g.org = true ∧ iW g.num = true) :
    Calls Tryd.prog 6 #[.pointer (some ⟨e, 0, none⟩), .agg (svC g hv tv dv cv)] w (SnP w e m rm c s O g) := by
  obtain ⟨V1, hV1⟩ : ∃ V, w.alloc (svO g hv tv dv cv) = V := ⟨_, rfl⟩
  obtain ⟨V2, hV2⟩ : ∃ V, V1.alloc mvZ = V := ⟨_, rfl⟩
  obtain ⟨b, hb⟩ : ∃ b, w.heap.size = b := ⟨_, rfl⟩
  have z1 : V1.heap.size = b + 1 := by rw [← hV1, ← hb]; simp
  have z2 : V2.heap.size = b + 2 := by rw [← hV2]; simp [z1]
  have hB1 : Below w.heap.size w V1 := by rw [← hV1]; exact (Below.refl _ _).alloc (Nat.le_refl _) _
  have hB2 : Below V1.heap.size V1 V2 := by rw [← hV2]; exact (Below.refl _ _).alloc (Nat.le_refl _) _
  have g1 : V1.heap[b]? = some (svO g hv tv dv cv) := by rw [← hV1, ← hb]; exact heap_alloc_new' w _
  have g2 : V2.heap[b + 1]? = some mvZ := by rw [← hV2, ← z1]; exact heap_alloc_new' V1 _
  have hB : Below w.heap.size w V2 := hB1.trans (hB2.mono hB1.size)
  have HV : Hid (w.alloc (svO g hv tv dv cv) = V1 ∧ V1.alloc mvZ = V2 ∧ w.heap.size = b ∧ V1.heap.size = b + 1 ∧ V2.heap.size = b + 2) := ⟨hV1, hV2, hb, z1, z2⟩
  have HX : Hid (Xm V2 e m rm c s O ∧ Below w.heap.size w V2 ∧ V2.heap[b]? = some (svO g hv tv dv cv) ∧ V2.heap[b + 1]? = some mvZ ∧ e < b ∧ m < b) := ⟨h.below hB, hB, (hB2.block b (by omega)).trans g1, g2, by rw [← hb]; exact h.lt e (.inl rfl), by rw [← hb]; exact h.lt m (.inr (.inl rfl))⟩
  obtain ⟨S1, hS1⟩ : ∃ x, g.org = x := ⟨_, rfl⟩
  obtain ⟨S2, hS2⟩ : ∃ x, g.num = x := ⟨_, rfl⟩
  have HH : Hid (Xm w e m rm c s O) := h
  have hne : ∀ W : World, (binOp .neq 23 (.agg #[.int .i64 S1, .int .i64 S2]) (.agg #[.int .i64 S1, .int .i64 S2])).run Tryd.prog W = .ok (.bool false) W := fun W => by
    have q := neq_s (a := S1) (b := S2) (c := S1) (d := S2) (by rw [← hS1]; exact hw.1) (by rw [← hS2]; exact hw.2) (by rw [← hS1]; exact hw.1) (by rw [← hS2]; exact hw.2) W
    simpa using q
  have hgd := eqGuardS
  obtain ⟨s0, s1, s2, s3, s4, s5, s6, s7, s8, s9, s10, s11, s12, s13⟩ := sg_cells HX.out.2.2.1
  obtain ⟨x0, x1, x2, x3, x4, x5, x6, x7, x8, x9, x10, x11, x12, x13, x14, x15, x16, x17, x18, x19, x20, x21⟩ := xp_cells HX.out.1.box
  rw [hS1] at s1
  rw [hS2] at s2
  rw [← h1, hS1] at x0
  rw [← h2, hS2] at x1
  clear h h1 h2 hw hV1 hV2 z1 z2 hB1 hB2 g1 g2 hB hS1 hS2
  go_enter Tryd.func6, Tryd.ntmps6
  go_upto_region 1 with fail
  try rw [hb]
  rw [HV.out.1, HV.out.2.1]
  try rw [HV.out.2.2.2.1]
  clear hb
  go_quiet (fail)
  obtain ⟨V3, hV3⟩ : ∃ V, (V2.drewN nq).alloc mvZ = V := ⟨_, rfl⟩
  have hD : Below V2.heap.size V2 (V2.drewN nq) := ⟨rfl, rfl, rfl, Nat.le_refl _, fun _ _ => rfl⟩
  have hB3 : Below V2.heap.size V2 V3 := by rw [← hV3]; exact hD.alloc (Nat.le_refl _) _
  have z3 : V3.heap.size = b + 3 := by rw [← hV3, World.size_alloc]; show V2.heap.size + 1 = _; rw [HV.out.2.2.2.2]
  have g3 : V3.heap[b + 2]? = some mvZ := by rw [← hV3, ← HV.out.2.2.2.2]; exact heap_alloc_new' (V2.drewN nq) _
  have hBz := HV.out.2.2.2.2
  have H3 : Hid ((V2.drewN nq).alloc mvZ = V3 ∧ (V2.drewN nq).heap.size = b + 2) := ⟨hV3, hBz⟩
  have HX3 : Hid (Xm V3 e m rm c s O ∧ Below w.heap.size w V3 ∧ V3.heap[b]? = some (svO g hv tv dv cv) ∧ V3.heap[b + 1]? = some mvZ ∧ V3.heap[b + 2]? = some mvZ ∧ V3.heap.size = b + 3 ∧ w.heap.size = b) := ⟨HX.out.1.below hB3, HX.out.2.1.trans (hB3.mono HX.out.2.1.size), (hB3.block b (by omega)).trans HX.out.2.2.1, (hB3.block (b + 1) (by omega)).trans HX.out.2.2.2.1, g3, z3, HV.out.2.2.1⟩
  have HE : Hid (e < b ∧ m < b) := HX.out.2.2.2.2
  clear hV3 hD hB3 z3 g3 hBz s0 s1 s2 s3 s4 s5 s6 s7 s8 s9 s10 s11 s12 s13 x0 x1 x2 x3 x4 x5 x6 x7 x8 x9 x10 x11 x12 x13 x14 x15 x16 x17 x18 x19 x20 x21 HX HV hne hgd
  obtain ⟨s0, s1, s2, s3, s4, s5, s6, s7, s8, s9, s10, s11, s12, s13⟩ := sg_cells HX3.out.2.2.1
  obtain ⟨x0, x1, x2, x3, x4, x5, x6, x7, x8, x9, x10, x11, x12, x13, x14, x15, x16, x17, x18, x19, x20, x21⟩ := xp_cells HX3.out.1.box
  go_upto_region 4 with fail
  rw [H3.out.1]
  try rw [H3.out.2]
  try rw [show V2.heap.size = b + 2 from H3.out.2]
  clear H3
  by_cases hk : ∀ o ∈ O, o.p.chk ≠ g.chk
  · have hl : (Instr.lookup 60 (.map (some m)) (.int .i64 g.chk) true).run Tryd.prog V3.drew = .ok (.tuple #[.pointer none, .bool false]) V3.drew := lookG0 (HX3.out.1.mp.keep (w' := V3.drew) rfl) g.chk (fun e he => by obtain ⟨o, ho, rfl⟩ := List.mem_map.mp he; exact hk o ho)
    have HN : Hid (∀ o ∈ O, o.p.chk ≠ g.chk) := hk
    clear hk
    go_region
    clear hl s0 s1 s2 s3 s4 s5 s6 s7 s8 s9 s10 s11 s12 s13 x0 x1 x2 x3 x4 x5 x6 x7 x8 x9 x10 x11 x12 x13 x14 x15 x16 x17 x18 x19 x20 x21
    go_upto_region 8 with fail
    have hd : Below V3.heap.size V3 V3.drew := ⟨rfl, rfl, rfl, Nat.le_refl _, fun _ _ => rfl⟩
    have HT : Hid (Xm V3.drew e m rm c s O ∧ Kl (XF e m O) w V3.drew ∧ V3.drew.heap[b]? = some (svO g hv tv dv cv) ∧ V3.drew.heap[b + 1]? = some mvZ ∧ V3.drew.heap[b + 2]? = some (mvO (.slice none 0 0) (.slice none 0 0) (.slice none 0 0) false false false 0) ∧ V3.drew.ownsRow b 3 1 (.slice none 0 0) 0 []) := ⟨HX3.out.1.below hd, (Kl.of_below HX3.out.2.1).below hd, HX3.out.2.2.1, HX3.out.2.2.2.1, HX3.out.2.2.2.2.1, World.ownsRow_nil _ _ _ _⟩
    clear hd
    obtain ⟨W5, hW5⟩ : ∃ W, V3.drew = W := ⟨_, rfl⟩
    rw [hW5] at HT ⊢
    clear hW5
    obtain ⟨gn, hgn⟩ : ∃ x, s.gone = x := ⟨_, rfl⟩
    obtain ⟨B8, hB8⟩ : ∃ x, sntB s g = x := ⟨_, rfl⟩
    have HB8 : Hid (sntB s g = B8 ∧ s.gone = gn) := ⟨hB8, hgn⟩
    clear hB8
    obtain ⟨s0, s1, s2, s3, s4, s5, s6, s7, s8, s9, s10, s11, s12, s13⟩ := sg_cells HT.out.2.2.1
    obtain ⟨x0, x1, x2, x3, x4, x5, x6, x7, x8, x9, x10, x11, x12, x13, x14, x15, x16, x17, x18, x19, x20, x21⟩ := xp_cells HT.out.1.box
    rw [hgn] at x15
    clear hgn
    go_cut [69] from 35 to 69 (fun q wx => q = .bool B8 ∧ Hid (∃ n, wx = W5.drewN n))
    case first =>
      cases gn
      · by_cases q1 : g.typ = s.last.typ
        · have d1 : decide (g.typ = s.last.typ) = true := decide_eq_true q1; have b1 : (g.typ == s.last.typ) = true := by simpa using q1
          by_cases q2 : g.off = s.last.frm
          · have d2 : decide (g.off = s.last.frm) = true := decide_eq_true q2; have b2 : (g.off == s.last.frm) = true := by simpa using q2
            by_cases q3 : g.chk = s.last.chk
            · have d3 : decide (g.chk = s.last.chk) = true := decide_eq_true q3; have b3 : (g.chk == s.last.chk) = true := by simpa using q3
              have HQ : Hid (B8 = true) := by rw [← HB8.out.1]; unfold sntB; rw [HB8.out.2, d1, d2, d3]; rfl
              clear q1 q2 q3
              go_quiet (fail)
              go_wp2_with fail
              go_meet
              exact ⟨by rw [HQ.out], _, rfl⟩
            · have d3 : decide (g.chk = s.last.chk) = false := decide_eq_false q3; have b3 : (g.chk == s.last.chk) = false := by simpa using q3
              have HQ : Hid (B8 = false) := by rw [← HB8.out.1]; unfold sntB; rw [HB8.out.2, d1, d2, d3]; rfl
              clear q1 q2 q3
              go_quiet (fail)
              go_wp2_with fail
              go_meet
              exact ⟨by rw [HQ.out], _, rfl⟩
          · have d2 : decide (g.off = s.last.frm) = false := decide_eq_false q2; have b2 : (g.off == s.last.frm) = false := by simpa using q2
            have HQ : Hid (B8 = false) := by rw [← HB8.out.1]; unfold sntB; rw [HB8.out.2, d1, d2]; rfl
            clear q1 q2
            go_quiet (fail)
            go_wp2_with fail
            go_meet
            exact ⟨by rw [HQ.out], _, rfl⟩
        · have d1 : decide (g.typ = s.last.typ) = false := decide_eq_false q1; have b1 : (g.typ == s.last.typ) = false := by simpa using q1
          have HQ : Hid (B8 = false) := by rw [← HB8.out.1]; unfold sntB; rw [HB8.out.2, d1]; rfl
          clear q1
          go_quiet (fail)
          go_wp2_with fail
          go_meet
          exact ⟨by rw [HQ.out], _, rfl⟩
      · have HQ : Hid (B8 = false) := by rw [← HB8.out.1]; unfold sntB; rw [HB8.out.2]; rfl
        go_quiet (fail)
        go_wp2_with fail
        go_meet
        exact ⟨by rw [HQ.out], _, rfl⟩
    case rest =>
      obtain ⟨rfl, HWc⟩ := hcut
      obtain ⟨W6, rfl⟩ : ∃ W, W = wc := ⟨_, rfl⟩
      have hB6 : Below W5.heap.size W5 W6 := by
        obtain ⟨n, e⟩ := HWc.out
        rw [e]
        exact ⟨rfl, rfl, rfl, Nat.le_refl _, fun _ _ => rfl⟩
      have k6 : ∀ g o, W5.heap[g]? = some o → W6.heap[g]? = some o := fun g o h => (hB6.block g (Array.getElem?_eq_some_iff.1 h).1).trans h
      have H6 : Hid (Xm W6 e m rm c s (O) ∧ Kl (XF e m O) w W6 ∧ W6.heap[b + 1]? = some mvZ ∧ W6.heap[b + 2]? = some (mvO (.slice none 0 0) (.slice none 0 0) (.slice none 0 0) false false false 0) ∧ W6.ownsRow b 3 1 (.slice none 0 0) 0 []) := ⟨HT.out.1.below hB6, HT.out.2.1.below hB6, k6 _ _ HT.out.2.2.2.1, k6 _ _ HT.out.2.2.2.2.1, own_at HT.out.2.2.2.2.2 (fun g hg => hB6.block g (World.ownsRow.lt HT.out.2.2.2.2.2 g hg).2)⟩
      clear HWc hB6 k6 s0 s1 s2 s3 s4 s5 s6 s7 s8 s9 s10 s11 s12 s13 x0 x1 x2 x3 x4 x5 x6 x7 x8 x9 x10 x11 x12 x13 x14 x15 x16 x17 x18 x19 x20 x21 HT
      cases B8
      · obtain ⟨m0, m1, m2, m3, m4, m5, m6⟩ := mv_cells H6.out.2.2.2.1
        obtain ⟨z0, z1, z2, z3, z4, z5, z6⟩ := mv_cells H6.out.2.2.1
        have fz := mv_frozen H6.out.2.2.1
        go_wp2_with fail
        change bodyPost _ _ _ _ _ (mS W6 (b + 1) (.slice none 0 0) (.slice none 0 0) (.slice none 0 0) false false false 0)
        have hlv := fun j => cell_of_row _ (b + 1) j _ _ _ (mS_heap W6 (b + 1) (.slice none 0 0) (.slice none 0 0) (.slice none 0 0) _ _ _ false false false _ _ _ 0 _ H6.out.2.2.1)
        have hg2 := mS_grown W6 (b + 1) (.slice none 0 0) (.slice none 0 0) (.slice none 0 0) false false false 0
        generalize mS W6 (b + 1) (.slice none 0 0) (.slice none 0 0) (.slice none 0 0) false false false 0 = W9 at *
        clear m0 m1 m2 m3 m4 m5 m6 z0 z1 z2 z3 z4 z5 z6 fz
        refine bodyPost_ret (v := .agg (mvC (.slice none 0 0) (.slice none 0 0) (.slice none 0 0) false false false 0)) (by simp [results, Tryd.results6, go_sem, mvC, hlv]) rfl ?_
        exact snp_end HE.out.1 HE.out.2 HH.out (upO_none HN.out).symm (by rw [snO_no HN.out]; rfl) (by rw [snO_no HN.out]; rfl) H6.out.1 H6.out.2.1 H6.out.2.2.1 H6.out.2.2.2.2 hg2 HX3.out.2.2.2.2.2.2 HB8.out.1 (by rw [Bool.or_false])
      · obtain ⟨m0, m1, m2, m3, m4, m5, m6⟩ := mv_cells H6.out.2.2.2.1
        obtain ⟨x0, x1, x2, x3, x4, x5, x6, x7, x8, x9, x10, x11, x12, x13, x14, x15, x16, x17, x18, x19, x20, x21⟩ := xp_cells H6.out.1.box
        have f15 := xp_frozen H6.out.1.box 15
        obtain ⟨W7, hW7⟩ : ∃ W, W6.setCell ⟨e, 15, none⟩ (.bool true) = W := ⟨_, rfl⟩
        have k7 : Kl (fun g => g = e) W6 W7 := by rw [← hW7]; exact (Kl.refl _ _).grown (grown_set' _ _ _ _) (fun k q => .inl (Option.some.inj q).symm)
        have e7 : W7.heap[b + 2]? = some (mvO (.slice none 0 0) (.slice none 0 0) (.slice none 0 0) false false false 0) := (k7.block (b + 2) (Array.getElem?_eq_some_iff.1 H6.out.2.2.2.1).1 (by have := HE.out.1; omega)).trans H6.out.2.2.2.1
        have z7 : W7.heap[b + 1]? = some mvZ := (k7.block (b + 1) (Array.getElem?_eq_some_iff.1 H6.out.2.2.1).1 (by have := HE.out.1; omega)).trans H6.out.2.2.1
        have x7 : Xm W7 e m rm c { s with gone := true } (O) := H6.out.1.boxed k7 (by rw [← hW7]; exact (heap_setCell_same _ _ _ _ _ _ H6.out.1.box).trans rfl)
        have r7 := own_at H6.out.2.2.2.2 (fun g hg => k7.block g (World.ownsRow.lt H6.out.2.2.2.2 g hg).2 (fun q => apart_of H6.out.2.2.2.2 hg H6.out.1.box (by decide) q))
        have H7 : Hid (Xm W7 e m rm c { s with gone := true } (O) ∧ Kl (XF e m O) w W7 ∧ W7.heap[b + 1]? = some mvZ ∧ W7.heap[b + 2]? = some (mvO (.slice none 0 0) (.slice none 0 0) (.slice none 0 0) false false false 0) ∧ W7.ownsRow b 3 1 (.slice none 0 0) 0 []) := ⟨x7, H6.out.2.1.then k7 (fun g _ q => .inl q), z7, e7, r7⟩
        have m3' : W7.cell? ⟨b + 2, 3, none⟩ = some (.bool false) := (mv_cells e7).2.2.2.1
        have f3' : W7.frozen? ⟨b + 2, 3, none⟩ = false := mv_frozen e7 3
        clear k7 e7 z7 x7 r7 H6
        go_upto_region 10 with fail
        try rw [hW7]
        clear m3' f3' f15 hW7 m0 m1 m2 m3 m4 m5 m6 x0 x1 x2 x3 x4 x5 x6 x7 x8 x9 x10 x11 x12 x13 x14 x15 x16 x17 x18 x19 x20 x21
        obtain ⟨W8, hW8⟩ : ∃ W, W7.setCell ⟨b + 2, 3, none⟩ (.bool true) = W := ⟨_, rfl⟩
        rw [hW8]
        have k8 : Kl (fun g => g = b + 2) W7 W8 := by rw [← hW8]; exact (Kl.refl _ _).grown (grown_set' _ _ _ _) (fun k q => .inl (Option.some.inj q).symm)
        have e8 : W8.heap[b + 2]? = some (mvO (.slice none 0 0) (.slice none 0 0) (.slice none 0 0) true false false 0) := by rw [← hW8]; exact (heap_setCell_same _ _ _ _ _ _ H7.out.2.2.2.1).trans rfl
        have r8 := own_at H7.out.2.2.2.2 (fun g hg => k8.block g (World.ownsRow.lt H7.out.2.2.2.2 g hg).2 (fun q => apart_of H7.out.2.2.2.2 hg H7.out.2.2.2.1 (by decide) q))
        have H8 : Hid (Xm W8 e m rm c { s with gone := true } (O) ∧ Kl (XF e m O) w W8 ∧ W8.heap[b + 1]? = some mvZ ∧ W8.heap[b + 2]? = some (mvO (.slice none 0 0) (.slice none 0 0) (.slice none 0 0) true false false 0) ∧ W8.ownsRow b 3 1 (.slice none 0 0) 0 []) := by
          have hl := H7.out.1.lt
          have ez := HX3.out.2.2.2.2.2.2
          refine ⟨H7.out.1.keep k8 (fun g hg q => ?_), ⟨k8.os.trans H7.out.2.1.os, k8.tape.trans H7.out.2.1.tape, k8.output.trans H7.out.2.1.output, Nat.le_trans H7.out.2.1.size k8.size, fun g hg hn => (k8.block g (Nat.lt_of_lt_of_le hg H7.out.2.1.size) (by omega)).trans (H7.out.2.1.block g hg hn)⟩, (k8.block (b + 1) (Array.getElem?_eq_some_iff.1 H7.out.2.2.1).1 (by omega)).trans H7.out.2.2.1, e8, r8⟩
          rcases hg with q1 | q1 | q1
          · have := HE.out.1; omega
          · have := HE.out.2; omega
          · obtain ⟨o, ho, rfl⟩ := List.mem_map.mp q1
            have q2 := H7.out.1.ck o ho
            rw [q, H7.out.2.2.2.1] at q2
            simp only [Option.some.injEq, Obj.cells.injEq] at q2
            exact absurd q2.2.1 (by decide)
        clear hW8 k8 e8 r8 H7
        obtain ⟨m0, m1, m2, m3, m4, m5, m6⟩ := mv_cells H8.out.2.2.2.1
        obtain ⟨z0, z1, z2, z3, z4, z5, z6⟩ := mv_cells H8.out.2.2.1
        have fz := mv_frozen H8.out.2.2.1
        go_wp2_with fail
        change bodyPost _ _ _ _ _ (mS W8 (b + 1) (.slice none 0 0) (.slice none 0 0) (.slice none 0 0) true false false 0)
        have hlv := fun j => cell_of_row _ (b + 1) j _ _ _ (mS_heap W8 (b + 1) (.slice none 0 0) (.slice none 0 0) (.slice none 0 0) _ _ _ true false false _ _ _ 0 _ H8.out.2.2.1)
        have hg2 := mS_grown W8 (b + 1) (.slice none 0 0) (.slice none 0 0) (.slice none 0 0) true false false 0
        generalize mS W8 (b + 1) (.slice none 0 0) (.slice none 0 0) (.slice none 0 0) true false false 0 = W9 at *
        clear m0 m1 m2 m3 m4 m5 m6 z0 z1 z2 z3 z4 z5 z6 fz
        refine bodyPost_ret (v := .agg (mvC (.slice none 0 0) (.slice none 0 0) (.slice none 0 0) true false false 0)) (by simp [results, Tryd.results6, go_sem, mvC, hlv]) rfl ?_
        exact snp_end HE.out.1 HE.out.2 HH.out (upO_none HN.out).symm (by rw [snO_no HN.out]; rfl) (by rw [snO_no HN.out]; rfl) H8.out.1 H8.out.2.1 H8.out.2.2.1 H8.out.2.2.2.2 hg2 HX3.out.2.2.2.2.2.2 HB8.out.1 (by rw [Bool.or_true])
  · obtain ⟨o, ho, hoc⟩ : ∃ o ∈ O, o.p.chk = g.chk := Classical.byContradiction fun hn => hk (fun o ho e => hn ⟨o, ho, e⟩)
    have hl : (Instr.lookup 60 (.map (some m)) (.int .i64 g.chk) true).run Tryd.prog V3.drew = .ok (.tuple #[.pointer (some ⟨o.x, 0, none⟩), .bool true]) V3.drew := by
      have q := lookG1 (HX3.out.1.mp.keep (w' := V3.drew) rfl) o.en (List.mem_map.mpr ⟨o, ho, rfl⟩)
      rw [show o.en.k = g.chk from hoc] at q
      exact q
    obtain ⟨X, hX⟩ : ∃ x, o.x = x := ⟨_, rfl⟩
    rw [hX] at hl
    have HO : Hid (o ∈ O ∧ o.p.chk = g.chk ∧ o.x = X) := ⟨ho, hoc, hX⟩
    clear hk ho hoc hX
    go_region
    clear hl s0 s1 s2 s3 s4 s5 s6 s7 s8 s9 s10 s11 s12 s13 x0 x1 x2 x3 x4 x5 x6 x7 x8 x9 x10 x11 x12 x13 x14 x15 x16 x17 x18 x19 x20 x21
    have hd : Below V3.heap.size V3 V3.drew := ⟨rfl, rfl, rfl, Nat.le_refl _, fun _ _ => rfl⟩
    have H4 : Hid (Xm V3.drew e m rm c s O ∧ Below w.heap.size w V3.drew ∧ V3.drew.heap[b]? = some (svO g hv tv dv cv) ∧ V3.drew.heap[b + 1]? = some mvZ ∧ V3.drew.heap[b + 2]? = some mvZ ∧ V3.drew.heap.size = b + 3) := ⟨HX3.out.1.below hd, HX3.out.2.1.trans (hd.mono HX3.out.2.1.size), HX3.out.2.2.1, HX3.out.2.2.2.1, HX3.out.2.2.2.2.1, HX3.out.2.2.2.2.2.1⟩
    clear hd
    obtain ⟨V4, hV4⟩ : ∃ W, V3.drew = W := ⟨_, rfl⟩
    rw [hV4] at H4 ⊢
    clear hV4
    have hck := H4.out.1.ck o HO.out.1
    rw [HO.out.2.2] at hck
    have HCk : Hid (V4.heap[X]? = some (.cells (ckC o.p o.wt o.ag) 69)) := hck
    obtain ⟨k0, k1, k2, k3, k4, k5, k6⟩ := ck_cells hck
    have fk := xp_frozen hck 5
    have HXb : Hid (X < b) := by have := HH.out.lt X (.inr (.inr (List.mem_map.mpr ⟨o, HO.out.1, HO.out.2.2⟩))); have := HX3.out.2.2.2.2.2.2; show X < b; omega
    clear hck
    obtain ⟨V5, hV5⟩ : ∃ W, V4.setCell ⟨X, 5, none⟩ (.bool false) = W := ⟨_, rfl⟩
    have q5 : Kl (fun g => g = X) V4 V5 := by rw [← hV5]; exact (Kl.refl _ _).grown (grown_set' _ _ _ _) (fun k q => .inl (Option.some.inj q).symm)
    have x5 : Xm V5 e m rm c s (upO o.p.chk (wtO false) O) := H4.out.1.upd HO.out.1 (fun _ => ⟨rfl, rfl⟩) (by rw [HO.out.2.2]; exact q5) (by rw [HO.out.2.2, ← hV5]; exact (heap_setCell_same _ _ _ _ _ _ HCk.out).trans rfl)
    rw [HO.out.2.1] at x5
    have z5 : V5.heap.size = b + 3 := by rw [← hV5, World.size_setCell]; exact H4.out.2.2.2.2.2
    have H5 : Hid (Xm V5 e m rm c s (upO g.chk (wtO false) O) ∧ Kl (XF e m O) w V5 ∧ V5.heap[b]? = some (svO g hv tv dv cv) ∧ V5.heap[b + 1]? = some mvZ ∧ V5.heap[b + 2]? = some mvZ ∧ V5.heap.size = b + 3) := by
      have hXb : X < b := HXb.out
      refine ⟨x5, (Kl.of_below H4.out.2.1).then q5 (fun g _ q => .inr (.inr (List.mem_map.mpr ⟨o, HO.out.1, HO.out.2.2.trans q.symm⟩))), (q5.block b (by have := H4.out.2.2.2.2.2; omega) (by omega)).trans H4.out.2.2.1, (q5.block (b + 1) (by have := H4.out.2.2.2.2.2; omega) (by omega)).trans H4.out.2.2.2.1, (q5.block (b + 2) (by have := H4.out.2.2.2.2.2; omega) (by omega)).trans H4.out.2.2.2.2.1, z5⟩
    clear q5 x5 z5
    go_upto_region 7 with fail
    try rw [hV5]
    clear hV5 k0 k1 k2 k3 k4 k5 k6 fk HCk H4
    obtain ⟨V6, hV6⟩ : ∃ W, V5.alloc (.cells #[.int .i64 g.chk] 3) = W := ⟨_, rfl⟩
    have hB6 : Below V5.heap.size V5 V6 := by rw [← hV6]; exact (Below.refl _ _).alloc (Nat.le_refl _) _
    have g6 : V6.heap[b + 3]? = some (.cells #[.int .i64 g.chk] 3) := by rw [← hV6, ← H5.out.2.2.2.2.2]; exact heap_alloc_new' V5 _
    have e6 : V6.heap[b + 2]? = some mvZ := (hB6.block (b + 2) (by have := H5.out.2.2.2.2.2; omega)).trans H5.out.2.2.2.2.1
    have HV5z : Hid (V5.heap.size = b + 3) := H5.out.2.2.2.2.2
    have H6 : Hid (Xm V6 e m rm c s (upO g.chk (wtO false) O) ∧ Kl (XF e m O) w V6 ∧ V6.heap[b]? = some (svO g hv tv dv cv) ∧ V6.heap[b + 1]? = some mvZ ∧ V6.heap[b + 2]? = some mvZ ∧ V6.heap[b + 3]? = some (.cells #[.int .i64 g.chk] 3)) := ⟨H5.out.1.below hB6, H5.out.2.1.below hB6, (hB6.block b (by have := H5.out.2.2.2.2.2; omega)).trans H5.out.2.2.1, (hB6.block (b + 1) (by have := H5.out.2.2.2.2.2; omega)).trans H5.out.2.2.2.1, e6, g6⟩
    have m2' : V6.cell? ⟨b + 2, 2, none⟩ = some (.slice none 0 0) := (cell_of_row _ _ _ _ _ _ e6).trans rfl
    have f2' : V6.frozen? ⟨b + 2, 2, none⟩ = false := xp_frozen e6 2
    have s8' : V5.cell? ⟨b, 8, none⟩ = some (.int .i64 g.chk) := (cell_of_row _ _ _ _ _ _ H5.out.2.2.1).trans rfl
    clear hB6 g6 e6 H5
    go_upto_region 8 with fail
    try rw [hV6]
    try rw [HV5z.out]
    clear hV6 m2' f2' s8' HV5z
    obtain ⟨W5, hW5⟩ : ∃ W, V6.setCell ⟨b + 2, 2, none⟩ (.slice (some ⟨b + 3, 0, none⟩) 1 1) = W := ⟨_, rfl⟩
    rw [hW5]
    have q6 : Kl (fun g => g = b + 2) V6 W5 := by rw [← hW5]; exact (Kl.refl _ _).grown (grown_set' _ _ _ _) (fun k q => .inl (Option.some.inj q).symm)
    have e6 : W5.heap[b + 2]? = some (mvO (.slice none 0 0) (.slice none 0 0) (.slice (some ⟨b + 3, 0, none⟩) 1 1) false false false 0) := by rw [← hW5]; exact (heap_setCell_same _ _ _ _ _ _ H6.out.2.2.2.2.1).trans rfl
    have HT : Hid (Xm W5 e m rm c s (upO g.chk (wtO false) O) ∧ Kl (XF e m O) w W5 ∧ W5.heap[b]? = some (svO g hv tv dv cv) ∧ W5.heap[b + 1]? = some mvZ ∧ W5.heap[b + 2]? = some (mvO (.slice none 0 0) (.slice none 0 0) (.slice (some ⟨b + 3, 0, none⟩) 1 1) false false false 0) ∧ W5.ownsRow b 3 1 (.slice (some ⟨b + 3, 0, none⟩) 1 1) 1 [.int .i64 g.chk]) := by
      have hlt : ∀ g', XF e m (upO g.chk (wtO false) O) g' → g' < b := fun g' hg' => by
        have := HH.out.lt g' ((xf_up (f := wtO false) (fun _ => rfl)).mp hg')
        have := HX3.out.2.2.2.2.2.2
        omega
      have bl : ∀ g' o', V6.heap[g']? = some o' → g' ≠ b + 2 → W5.heap[g']? = some o' := fun g' o' h1 h2 => (q6.block g' (Array.getElem?_eq_some_iff.1 h1).1 h2).trans h1
      refine ⟨H6.out.1.keep q6 (fun g' hg' q => by have := hlt g' hg'; omega), ⟨q6.os.trans H6.out.2.1.os, q6.tape.trans H6.out.2.1.tape, q6.output.trans H6.out.2.1.output, Nat.le_trans H6.out.2.1.size q6.size, fun g' hg' hn => (q6.block g' (Nat.lt_of_lt_of_le hg' H6.out.2.1.size) (by have := HX3.out.2.2.2.2.2.2; omega)).trans (H6.out.2.1.block g' hg' hn)⟩, bl _ _ H6.out.2.2.1 (by omega), bl _ _ H6.out.2.2.2.1 (by omega), e6, rfl, .inr ⟨b + 3, 1, _, rfl, by omega, bl _ _ H6.out.2.2.2.2.2 (by omega), Nat.le_refl _, by unfold maxLen; omega, rfl, rfl⟩⟩
    have HN : Hid (snO O g.chk = true) := by
      show snO O g.chk = true
      unfold snO
      rw [List.any_eq_true]
      exact ⟨o, HO.out.1, decide_eq_true HO.out.2.1⟩
    clear hW5 q6 e6 H6
    obtain ⟨gn, hgn⟩ : ∃ x, s.gone = x := ⟨_, rfl⟩
    obtain ⟨B8, hB8⟩ : ∃ x, sntB s g = x := ⟨_, rfl⟩
    have HB8 : Hid (sntB s g = B8 ∧ s.gone = gn) := ⟨hB8, hgn⟩
    clear hB8
    obtain ⟨s0, s1, s2, s3, s4, s5, s6, s7, s8, s9, s10, s11, s12, s13⟩ := sg_cells HT.out.2.2.1
    obtain ⟨x0, x1, x2, x3, x4, x5, x6, x7, x8, x9, x10, x11, x12, x13, x14, x15, x16, x17, x18, x19, x20, x21⟩ := xp_cells HT.out.1.box
    rw [hgn] at x15
    clear hgn
    go_cut [69] from 35 to 69 (fun q wx => q = .bool B8 ∧ Hid (∃ n, wx = W5.drewN n))
    case first =>
      cases gn
      · by_cases q1 : g.typ = s.last.typ
        · have d1 : decide (g.typ = s.last.typ) = true := decide_eq_true q1; have b1 : (g.typ == s.last.typ) = true := by simpa using q1
          by_cases q2 : g.off = s.last.frm
          · have d2 : decide (g.off = s.last.frm) = true := decide_eq_true q2; have b2 : (g.off == s.last.frm) = true := by simpa using q2
            by_cases q3 : g.chk = s.last.chk
            · have d3 : decide (g.chk = s.last.chk) = true := decide_eq_true q3; have b3 : (g.chk == s.last.chk) = true := by simpa using q3
              have HQ : Hid (B8 = true) := by rw [← HB8.out.1]; unfold sntB; rw [HB8.out.2, d1, d2, d3]; rfl
              clear q1 q2 q3
              go_quiet (fail)
              go_wp2_with fail
              go_meet
              exact ⟨by rw [HQ.out], _, rfl⟩
            · have d3 : decide (g.chk = s.last.chk) = false := decide_eq_false q3; have b3 : (g.chk == s.last.chk) = false := by simpa using q3
              have HQ : Hid (B8 = false) := by rw [← HB8.out.1]; unfold sntB; rw [HB8.out.2, d1, d2, d3]; rfl
              clear q1 q2 q3
              go_quiet (fail)
              go_wp2_with fail
              go_meet
              exact ⟨by rw [HQ.out], _, rfl⟩
          · have d2 : decide (g.off = s.last.frm) = false := decide_eq_false q2; have b2 : (g.off == s.last.frm) = false := by simpa using q2
            have HQ : Hid (B8 = false) := by rw [← HB8.out.1]; unfold sntB; rw [HB8.out.2, d1, d2]; rfl
            clear q1 q2
            go_quiet (fail)
            go_wp2_with fail
            go_meet
            exact ⟨by rw [HQ.out], _, rfl⟩
        · have d1 : decide (g.typ = s.last.typ) = false := decide_eq_false q1; have b1 : (g.typ == s.last.typ) = false := by simpa using q1
          have HQ : Hid (B8 = false) := by rw [← HB8.out.1]; unfold sntB; rw [HB8.out.2, d1]; rfl
          clear q1
          go_quiet (fail)
          go_wp2_with fail
          go_meet
          exact ⟨by rw [HQ.out], _, rfl⟩
      · have HQ : Hid (B8 = false) := by rw [← HB8.out.1]; unfold sntB; rw [HB8.out.2]; rfl
        go_quiet (fail)
        go_wp2_with fail
        go_meet
        exact ⟨by rw [HQ.out], _, rfl⟩
    case rest =>
      obtain ⟨rfl, HWc⟩ := hcut
      obtain ⟨W6, rfl⟩ : ∃ W, W = wc := ⟨_, rfl⟩
      have hB6 : Below W5.heap.size W5 W6 := by
        obtain ⟨n, e⟩ := HWc.out
        rw [e]
        exact ⟨rfl, rfl, rfl, Nat.le_refl _, fun _ _ => rfl⟩
      have k6 : ∀ g o, W5.heap[g]? = some o → W6.heap[g]? = some o := fun g o h => (hB6.block g (Array.getElem?_eq_some_iff.1 h).1).trans h
      have H6 : Hid (Xm W6 e m rm c s (upO g.chk (wtO false) O) ∧ Kl (XF e m O) w W6 ∧ W6.heap[b + 1]? = some mvZ ∧ W6.heap[b + 2]? = some (mvO (.slice none 0 0) (.slice none 0 0) (.slice (some ⟨b + 3, 0, none⟩) 1 1) false false false 0) ∧ W6.ownsRow b 3 1 (.slice (some ⟨b + 3, 0, none⟩) 1 1) 1 [.int .i64 g.chk]) := ⟨HT.out.1.below hB6, HT.out.2.1.below hB6, k6 _ _ HT.out.2.2.2.1, k6 _ _ HT.out.2.2.2.2.1, own_at HT.out.2.2.2.2.2 (fun g hg => hB6.block g (World.ownsRow.lt HT.out.2.2.2.2.2 g hg).2)⟩
      clear HWc hB6 k6 s0 s1 s2 s3 s4 s5 s6 s7 s8 s9 s10 s11 s12 s13 x0 x1 x2 x3 x4 x5 x6 x7 x8 x9 x10 x11 x12 x13 x14 x15 x16 x17 x18 x19 x20 x21 HT
      cases B8
      · obtain ⟨m0, m1, m2, m3, m4, m5, m6⟩ := mv_cells H6.out.2.2.2.1
        obtain ⟨z0, z1, z2, z3, z4, z5, z6⟩ := mv_cells H6.out.2.2.1
        have fz := mv_frozen H6.out.2.2.1
        go_wp2_with fail
        change bodyPost _ _ _ _ _ (mS W6 (b + 1) (.slice none 0 0) (.slice none 0 0) (.slice (some ⟨b + 3, 0, none⟩) 1 1) false false false 0)
        have hlv := fun j => cell_of_row _ (b + 1) j _ _ _ (mS_heap W6 (b + 1) (.slice none 0 0) (.slice none 0 0) (.slice (some ⟨b + 3, 0, none⟩) 1 1) _ _ _ false false false _ _ _ 0 _ H6.out.2.2.1)
        have hg2 := mS_grown W6 (b + 1) (.slice none 0 0) (.slice none 0 0) (.slice (some ⟨b + 3, 0, none⟩) 1 1) false false false 0
        generalize mS W6 (b + 1) (.slice none 0 0) (.slice none 0 0) (.slice (some ⟨b + 3, 0, none⟩) 1 1) false false false 0 = W9 at *
        clear m0 m1 m2 m3 m4 m5 m6 z0 z1 z2 z3 z4 z5 z6 fz
        refine bodyPost_ret (v := .agg (mvC (.slice none 0 0) (.slice none 0 0) (.slice (some ⟨b + 3, 0, none⟩) 1 1) false false false 0)) (by simp [results, Tryd.results6, go_sem, mvC, hlv]) rfl ?_
        exact snp_end HE.out.1 HE.out.2 HH.out rfl (by rw [HN.out]; rfl) (by rw [HN.out]; rfl) H6.out.1 H6.out.2.1 H6.out.2.2.1 H6.out.2.2.2.2 hg2 HX3.out.2.2.2.2.2.2 HB8.out.1 (by rw [Bool.or_false])
      · obtain ⟨m0, m1, m2, m3, m4, m5, m6⟩ := mv_cells H6.out.2.2.2.1
        obtain ⟨x0, x1, x2, x3, x4, x5, x6, x7, x8, x9, x10, x11, x12, x13, x14, x15, x16, x17, x18, x19, x20, x21⟩ := xp_cells H6.out.1.box
        have f15 := xp_frozen H6.out.1.box 15
        obtain ⟨W7, hW7⟩ : ∃ W, W6.setCell ⟨e, 15, none⟩ (.bool true) = W := ⟨_, rfl⟩
        have k7 : Kl (fun g => g = e) W6 W7 := by rw [← hW7]; exact (Kl.refl _ _).grown (grown_set' _ _ _ _) (fun k q => .inl (Option.some.inj q).symm)
        have e7 : W7.heap[b + 2]? = some (mvO (.slice none 0 0) (.slice none 0 0) (.slice (some ⟨b + 3, 0, none⟩) 1 1) false false false 0) := (k7.block (b + 2) (Array.getElem?_eq_some_iff.1 H6.out.2.2.2.1).1 (by have := HE.out.1; omega)).trans H6.out.2.2.2.1
        have z7 : W7.heap[b + 1]? = some mvZ := (k7.block (b + 1) (Array.getElem?_eq_some_iff.1 H6.out.2.2.1).1 (by have := HE.out.1; omega)).trans H6.out.2.2.1
        have x7 : Xm W7 e m rm c { s with gone := true } (upO g.chk (wtO false) O) := H6.out.1.boxed k7 (by rw [← hW7]; exact (heap_setCell_same _ _ _ _ _ _ H6.out.1.box).trans rfl)
        have r7 := own_at H6.out.2.2.2.2 (fun g hg => k7.block g (World.ownsRow.lt H6.out.2.2.2.2 g hg).2 (fun q => apart_of H6.out.2.2.2.2 hg H6.out.1.box (by decide) q))
        have H7 : Hid (Xm W7 e m rm c { s with gone := true } (upO g.chk (wtO false) O) ∧ Kl (XF e m O) w W7 ∧ W7.heap[b + 1]? = some mvZ ∧ W7.heap[b + 2]? = some (mvO (.slice none 0 0) (.slice none 0 0) (.slice (some ⟨b + 3, 0, none⟩) 1 1) false false false 0) ∧ W7.ownsRow b 3 1 (.slice (some ⟨b + 3, 0, none⟩) 1 1) 1 [.int .i64 g.chk]) := ⟨x7, H6.out.2.1.then k7 (fun g _ q => .inl q), z7, e7, r7⟩
        have m3' : W7.cell? ⟨b + 2, 3, none⟩ = some (.bool false) := (mv_cells e7).2.2.2.1
        have f3' : W7.frozen? ⟨b + 2, 3, none⟩ = false := mv_frozen e7 3
        clear k7 e7 z7 x7 r7 H6
        go_upto_region 10 with fail
        try rw [hW7]
        clear m3' f3' f15 hW7 m0 m1 m2 m3 m4 m5 m6 x0 x1 x2 x3 x4 x5 x6 x7 x8 x9 x10 x11 x12 x13 x14 x15 x16 x17 x18 x19 x20 x21
        obtain ⟨W8, hW8⟩ : ∃ W, W7.setCell ⟨b + 2, 3, none⟩ (.bool true) = W := ⟨_, rfl⟩
        rw [hW8]
        have k8 : Kl (fun g => g = b + 2) W7 W8 := by rw [← hW8]; exact (Kl.refl _ _).grown (grown_set' _ _ _ _) (fun k q => .inl (Option.some.inj q).symm)
        have e8 : W8.heap[b + 2]? = some (mvO (.slice none 0 0) (.slice none 0 0) (.slice (some ⟨b + 3, 0, none⟩) 1 1) true false false 0) := by rw [← hW8]; exact (heap_setCell_same _ _ _ _ _ _ H7.out.2.2.2.1).trans rfl
        have r8 := own_at H7.out.2.2.2.2 (fun g hg => k8.block g (World.ownsRow.lt H7.out.2.2.2.2 g hg).2 (fun q => apart_of H7.out.2.2.2.2 hg H7.out.2.2.2.1 (by decide) q))
        have H8 : Hid (Xm W8 e m rm c { s with gone := true } (upO g.chk (wtO false) O) ∧ Kl (XF e m O) w W8 ∧ W8.heap[b + 1]? = some mvZ ∧ W8.heap[b + 2]? = some (mvO (.slice none 0 0) (.slice none 0 0) (.slice (some ⟨b + 3, 0, none⟩) 1 1) true false false 0) ∧ W8.ownsRow b 3 1 (.slice (some ⟨b + 3, 0, none⟩) 1 1) 1 [.int .i64 g.chk]) := by
          have hl := H7.out.1.lt
          have ez := HX3.out.2.2.2.2.2.2
          refine ⟨H7.out.1.keep k8 (fun g hg q => ?_), ⟨k8.os.trans H7.out.2.1.os, k8.tape.trans H7.out.2.1.tape, k8.output.trans H7.out.2.1.output, Nat.le_trans H7.out.2.1.size k8.size, fun g hg hn => (k8.block g (Nat.lt_of_lt_of_le hg H7.out.2.1.size) (by omega)).trans (H7.out.2.1.block g hg hn)⟩, (k8.block (b + 1) (Array.getElem?_eq_some_iff.1 H7.out.2.2.1).1 (by omega)).trans H7.out.2.2.1, e8, r8⟩
          rcases hg with q1 | q1 | q1
          · have := HE.out.1; omega
          · have := HE.out.2; omega
          · obtain ⟨o, ho, rfl⟩ := List.mem_map.mp q1
            have q2 := H7.out.1.ck o ho
            rw [q, H7.out.2.2.2.1] at q2
            simp only [Option.some.injEq, Obj.cells.injEq] at q2
            exact absurd q2.2.1 (by decide)
        clear hW8 k8 e8 r8 H7
        obtain ⟨m0, m1, m2, m3, m4, m5, m6⟩ := mv_cells H8.out.2.2.2.1
        obtain ⟨z0, z1, z2, z3, z4, z5, z6⟩ := mv_cells H8.out.2.2.1
        have fz := mv_frozen H8.out.2.2.1
        go_wp2_with fail
        change bodyPost _ _ _ _ _ (mS W8 (b + 1) (.slice none 0 0) (.slice none 0 0) (.slice (some ⟨b + 3, 0, none⟩) 1 1) true false false 0)
        have hlv := fun j => cell_of_row _ (b + 1) j _ _ _ (mS_heap W8 (b + 1) (.slice none 0 0) (.slice none 0 0) (.slice (some ⟨b + 3, 0, none⟩) 1 1) _ _ _ true false false _ _ _ 0 _ H8.out.2.2.1)
        have hg2 := mS_grown W8 (b + 1) (.slice none 0 0) (.slice none 0 0) (.slice (some ⟨b + 3, 0, none⟩) 1 1) true false false 0
        generalize mS W8 (b + 1) (.slice none 0 0) (.slice none 0 0) (.slice (some ⟨b + 3, 0, none⟩) 1 1) true false false 0 = W9 at *
        clear m0 m1 m2 m3 m4 m5 m6 z0 z1 z2 z3 z4 z5 z6 fz
        refine bodyPost_ret (v := .agg (mvC (.slice none 0 0) (.slice none 0 0) (.slice (some ⟨b + 3, 0, none⟩) 1 1) true false false 0)) (by simp [results, Tryd.results6, go_sem, mvC, hlv]) rfl ?_
        exact snp_end HE.out.1 HE.out.2 HH.out rfl (by rw [HN.out]; rfl) (by rw [HN.out]; rfl) H8.out.1 H8.out.2.1 H8.out.2.2.1 H8.out.2.2.2.2 hg2 HX3.out.2.2.2.2.2.2 HB8.out.1 (by rw [Bool.or_true])
end Go.Proofs.YtcfodcioeefbeaaDoor.X
