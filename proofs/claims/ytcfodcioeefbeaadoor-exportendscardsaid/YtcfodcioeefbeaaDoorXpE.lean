import Derived.Test.YtcfodcioeefbeaaDoorXpD
namespace Go.Proofs.YtcfodcioeefbeaaDoor.X
open Go.RowKit Go.Maps
set_option linter.unusedVariables false
set_option linter.unusedSimpArgs false

theorem lies_row {w : World} {lo n c : Nat} {a : Option Addr} {bs : List Int} (h : w.ownsRow lo 5 1 (.slice a n c) n (bs.map (Value.int .u8))) : Lies .u8 w a bs ∧ (a = none → n = 0 ∧ c = 0) ∧ n ≤ c ∧ bs.length = n := by
  have hl : bs.length = n := by have := h.1; simpa using this
  obtain ⟨_, ⟨e, h0⟩ | ⟨g, cap, cur, e, _, hh, h5, h6, h7, h8⟩⟩ := id h
  · cases e
    exact ⟨.inl (List.eq_nil_of_length_eq_zero hl), fun _ => ⟨rfl, rfl⟩, Nat.le_refl _, hl⟩
  · cases e
    refine ⟨.inr ⟨g, 0, rfl, fun j hj => ?_⟩, (fun e => by cases e), h5, hl⟩
    rw [Nat.zero_add]
    refine (World.ownsRow.cellAt h j (by omega)).trans ?_
    rw [List.getElem?_map, List.getElem?_eq_getElem hj, List.getD_eq_getElem?_getD, List.getElem?_eq_getElem hj]
    rfl
/-- The cells of a segment that was made. -/
def sgL (y : Sg × Value) : List Value := [.int .i64 y.1.typ, .int .i64 y.1.org, .int .i64 y.1.num, .slice none 0 0, .slice none 0 0, .int .i64 y.1.srv, .int .i64 y.1.off, y.2, .int .i64 y.1.chk, .int .i64 y.1.rep, .int .i64 y.1.upp, .int .i64 y.1.low, .slice none 0 0, .int .i64 y.1.rsn]
/-- Segments that were made, in a row of one's own; their bytes are one's own. -/
structure Sgs (w : World) (lo : Nat) (v : Value) (Y : List (Sg × Value)) : Prop where
  row : w.ownsRow lo 45 14 v Y.length (Y.flatMap sgL)
  el : ∀ y ∈ Y, w.ownsRow lo 5 1 y.2 y.1.data.length (y.1.data.map (Value.int .u8))
/-- What Late leaves, of a checkpoint that is open and out. -/
def LtP (w : World) (e m rm c : Nat) (s : Xs) (O : List Oc) (o : Oc) (g : Sg) (r : Ending) (w' : World) : Prop :=
  if o.ag ≥ s.ret then r = .returned (.agg (mvC (.slice none 0 0) (.slice none 0 0) (.slice none 0 0) false false true 2)) ∧ Below w.heap.size w w'
  else ∃ v dv, r = .returned (.agg (mvC (.slice none 0 0) v (.slice none 0 0) false false false 0)) ∧ Sgs w' w.heap.size v [(g, dv)] ∧ Xm w' e m rm c s (upO o.p.chk agO O) ∧ Kl (XF e m O) w w'
theorem size_mov : (Tryd.prog.info? 37).map (·.size) = some 7 := by kernel_rfl
attribute [local go_sem ↓] wp_store_whole
attribute [local go_sem] pBlk_ptr pAgg_agg
set_option maxRecDepth 100000 in
set_option maxHeartbeats 8000000 in
theorem late_out {w : World} {e m rm c : Nat} {s : Xs} {O : List Oc} (h : Xm w e m rm c s O) {o : Oc} (ho : o ∈ O) (hwt : o.wt = false) (hag : 0 ≤ o.ag ∧ o.ag ≤ 1000000) {a : Option Addr} {len cap : Nat} (hbv : s.bv = .slice a len cap) (zs : List Int) (hrow : w.ownsRow 0 5 1 (.slice a len cap) len (zs.map (Value.int .u8))) :
    Calls Tryd.prog 8 #[.pointer (some ⟨e, 0, none⟩), .int .i64 o.p.chk] w (LtP w e m rm c s O o (mk s.k o.p zs).1) := by
  obtain ⟨g, hg⟩ : ∃ g, (mk s.k o.p zs).1 = g := ⟨_, rfl⟩
  have HG : Hid ((mk s.k o.p zs).1 = g) := hg
  rw [hg]
  obtain ⟨V1, hV1⟩ : ∃ V, w.alloc mvZ = V := ⟨_, rfl⟩
  obtain ⟨b, hb⟩ : ∃ b, w.heap.size = b := ⟨_, rfl⟩
  have z1 : V1.heap.size = b + 1 := by rw [← hV1, ← hb]; simp
  have hB1 : Below w.heap.size w V1 := by rw [← hV1]; exact (Below.refl _ _).alloc (Nat.le_refl _) _
  have g1 : V1.heap[b]? = some mvZ := by rw [← hV1, ← hb]; exact heap_alloc_new' w _
  have HV : Hid (w.alloc mvZ = V1 ∧ w.heap.size = b ∧ V1.heap.size = b + 1) := ⟨hV1, hb, z1⟩
  have HX : Hid (Xm V1 e m rm c s O ∧ Below w.heap.size w V1 ∧ V1.heap[b]? = some mvZ ∧ w.heap.size = b) := ⟨h.below hB1, hB1, g1, hb⟩
  obtain ⟨X, hX⟩ : ∃ x, o.x = x := ⟨_, rfl⟩
  have HO : Hid (o ∈ O ∧ o.x = X ∧ X < b ∧ e < b ∧ m < b ∧ Xm w e m rm c s O) := ⟨ho, hX, by have := h.lt X (.inr (.inr (List.mem_map.mpr ⟨o, ho, hX⟩))); omega, by rw [← hb]; exact h.lt e (.inl rfl), by rw [← hb]; exact h.lt m (.inr (.inl rfl)), h⟩
  have HR : Hid (w.ownsRow 0 5 1 (.slice a len cap) len (zs.map (Value.int .u8)) ∧ s.bv = .slice a len cap ∧ (0 ≤ o.ag ∧ o.ag ≤ 1000000)) := ⟨hrow, hbv, hag⟩
  have hl : (Instr.lookup 60 (.map (some m)) (.int .i64 o.p.chk) true).run Tryd.prog V1 = .ok (.tuple #[.pointer (some ⟨X, 0, none⟩), .bool true]) V1 := by
    have q := lookG1 HX.out.1.mp o.en (List.mem_map.mpr ⟨o, ho, rfl⟩)
    rw [show o.en.x = X from hX] at q
    exact q
  obtain ⟨x0, x1, x2, x3, x4, x5, x6, x7, x8, x9, x10, x11, x12, x13, x14, x15, x16, x17, x18, x19, x20, x21⟩ := xp_cells HX.out.1.box
  have hck := HX.out.1.ck o ho
  rw [hX, hwt] at hck
  have HCk : Hid (V1.heap[X]? = some (.cells (ckC o.p false o.ag) 69)) := hck
  obtain ⟨k0, k1, k2, k3, k4, k5, k6⟩ := ck_cells hck
  clear h ho hwt hag hbv hrow hV1 z1 hB1 g1 hX hck hg
  go_enter Tryd.func8, Tryd.ntmps8
  go_upto_region 1 with fail
  try rw [hb]
  rw [HV.out.1]
  clear hb
  go_upto_region 4 with fail
  clear hl
  by_cases hge : o.ag ≥ s.ret
  · have hge' : decide (o.ag ≥ s.ret) = true := decide_eq_true hge
    have HGe : Hid (o.ag ≥ s.ret) := hge
    clear hge
    go_cut [34] from 25 to 34 (fun q wx => q = .bool true ∧ Hid (∃ n, wx = V1.drewN n))
    case first =>
      go_quiet (fail)
      go_wp2_with fail
      go_meet
      exact ⟨rfl, _, rfl⟩
    case rest =>
      obtain ⟨rfl, HWc⟩ := hcut
      obtain ⟨W6, rfl⟩ : ∃ W, W = wc := ⟨_, rfl⟩
      have hB6 : Below V1.heap.size V1 W6 := by
        obtain ⟨n, e⟩ := HWc.out
        rw [e]
        exact ⟨rfl, rfl, rfl, Nat.le_refl _, fun _ _ => rfl⟩
      have H6 : Hid (W6.heap[b]? = some mvZ ∧ Below w.heap.size w W6) := ⟨(hB6.block b (Array.getElem?_eq_some_iff.1 HX.out.2.2.1).1).trans HX.out.2.2.1, HX.out.2.1.trans (hB6.mono HX.out.2.1.size)⟩
      clear HWc hB6 x0 x1 x2 x3 x4 x5 x6 x7 x8 x9 x10 x11 x12 x13 x14 x15 x16 x17 x18 x19 x20 x21 k0 k1 k2 k3 k4 k5 k6
      have hst : Storable Tryd.prog 37 W6 (.pointer (some ⟨b, 0, none⟩)) (.agg #[.slice none 0 0, .slice none 0 0, .slice none 0 0, .bool false, .bool false, .bool true, .int .i64 2]) := ⟨b, _, _, _, rfl, rfl, H6.out.1, rfl, size_mov, by simp [Value.oneCell']⟩
      go_wp2_with fail
      have HZ : Hid ((W6.setRow b #[.slice none 0 0, .slice none 0 0, .slice none 0 0, .bool false, .bool false, .bool true, .int .i64 2]).heap[b]? = some (mvO (.slice none 0 0) (.slice none 0 0) (.slice none 0 0) false false true 2)) := setRow_heap _ _ _ _ _ _ H6.out.1
      have hlv := fun j => cell_of_row _ b j _ _ _ HZ.out
      refine bodyPost_ret (v := .agg (mvC (.slice none 0 0) (.slice none 0 0) (.slice none 0 0) false false true 2)) (by simp [results, Tryd.results8, go_sem, mvC, hlv]) rfl ?_
      unfold LtP
      rw [if_pos HGe.out]
      exact ⟨rfl, below_setRow H6.out.2 (by have := HX.out.2.2.2; omega) _⟩
  · have hge' : decide (o.ag ≥ s.ret) = false := decide_eq_false hge
    have HGe : Hid (¬ o.ag ≥ s.ret) := hge
    clear hge
    go_cut [34] from 25 to 34 (fun q wx => q = .bool false ∧ Hid (∃ n, wx = V1.drewN n))
    case first =>
      go_quiet (fail)
      go_wp2_with fail
      go_meet
      exact ⟨rfl, _, rfl⟩
    case rest =>
      obtain ⟨rfl, HWc⟩ := hcut
      obtain ⟨W6, rfl⟩ : ∃ W, W = wc := ⟨_, rfl⟩
      have hB6 : Below V1.heap.size V1 W6 := by
        obtain ⟨n, e⟩ := HWc.out
        rw [e]
        exact ⟨rfl, rfl, rfl, Nat.le_refl _, fun _ _ => rfl⟩
      have q6 := (hB6.block X (Array.getElem?_eq_some_iff.1 HCk.out).1).trans HCk.out
      have H6 : Hid (W6.heap[b]? = some mvZ ∧ Below w.heap.size w W6 ∧ Xm W6 e m rm c s O ∧ W6.heap[X]? = some (.cells (ckC o.p false o.ag) 69)) := ⟨(hB6.block b (Array.getElem?_eq_some_iff.1 HX.out.2.2.1).1).trans HX.out.2.2.1, HX.out.2.1.trans (hB6.mono HX.out.2.1.size), HX.out.1.below hB6, q6⟩
      clear HWc hB6 x0 x1 x2 x3 x4 x5 x6 x7 x8 x9 x10 x11 x12 x13 x14 x15 x16 x17 x18 x19 x20 x21 k0 k1 k2 k3 k4 k5 k6 hge' q6
      obtain ⟨A1, hA1⟩ : ∃ x, o.ag + 1 = x := ⟨_, rfl⟩
      have hw1 : IntKind.i64.wrap (o.ag + 1) = A1 := by rw [← hA1, IntKind.wrap_i64]; have := HR.out.2.2; omega
      have HA1 : Hid (o.ag + 1 = A1) := hA1
      clear hA1
      obtain ⟨k0, k1, k2, k3, k4, k5, k6⟩ := ck_cells H6.out.2.2.2
      have fk := xp_frozen H6.out.2.2.2 6
      obtain ⟨W7, hW7⟩ : ∃ W, W6.setCell ⟨X, 6, none⟩ (.int .i64 A1) = W := ⟨_, rfl⟩
      have e7 : W7.heap[X]? = some (.cells (ckC o.p false A1) 69) := by rw [← hW7]; exact (heap_setCell_same _ _ _ _ _ _ H6.out.2.2.2).trans rfl
      have q7 : Kl (fun g => g = X) W6 W7 := by rw [← hW7]; exact (Kl.refl _ _).grown (grown_set' _ _ _ _) (fun k q => .inl (Option.some.inj q).symm)
      have H7 : Hid (Kl (fun g => g = X) W6 W7 ∧ W7.heap[X]? = some (.cells (ckC o.p false A1) 69)) := ⟨q7, e7⟩
      clear q7
      go_upto_region 7 with fail
      try rw [hW7]
      clear hW7 k0 k1 k2 k3 k4 k5 k6 fk hw1
      have k5 : W7.cell? ⟨X, 5, none⟩ = some (.bool false) := (cell_of_row _ _ _ _ _ _ e7).trans rfl
      have fk := xp_frozen e7 5
      obtain ⟨W8, hW8⟩ : ∃ W, W7.setCell ⟨X, 5, none⟩ (.bool true) = W := ⟨_, rfl⟩
      have e8 : W8.heap[X]? = some (.cells (ckC o.p true A1) 69) := by rw [← hW8]; exact (heap_setCell_same _ _ _ _ _ _ e7).trans rfl
      have q8 : Kl (fun g => g = X) W6 W8 := by rw [← hW8]; exact H7.out.1.grown (grown_set' _ _ _ _) (fun k q => .inl (Option.some.inj q).symm)
      have x8 : Xm W8 e m rm c s (upO o.p.chk agO O) := H6.out.2.2.1.upd HO.out.1 (fun _ => ⟨rfl, rfl⟩) (by rw [HO.out.2.1]; exact q8) (by rw [HO.out.2.1]; show _ = some (Obj.cells (ckC o.p true (o.ag + 1)) _); rw [HA1.out]; exact e8)
      have r8 : W8.ownsRow 0 5 1 (.slice a len cap) len (zs.map (Value.int .u8)) := own_at HR.out.1 (fun y hy => (q8.block y (Nat.lt_of_lt_of_le (World.ownsRow.lt HR.out.1 y hy).2 H6.out.2.1.size) (fun q => apart_of HR.out.1 hy (HO.out.2.2.2.2.2.ck o HO.out.1) (by decide) (q.trans HO.out.2.1.symm))).trans (H6.out.2.1.block y (World.ownsRow.lt HR.out.1 y hy).2))
      have hXb := HO.out.2.2.1
      have H8 : Hid (Xm W8 e m rm c s (upO o.p.chk agO O) ∧ Kl (XF e m O) w W8 ∧ W8.heap[b]? = some mvZ ∧ W8.heap[X]? = some (.cells (ckC o.p true A1) 69) ∧ W8.ownsRow 0 5 1 (.slice a len cap) len (zs.map (Value.int .u8)) ∧ X < b ∧ w.heap.size = b ∧ b < W8.heap.size) := ⟨x8, (Kl.of_below H6.out.2.1).then q8 (fun y _ q => .inr (.inr (List.mem_map.mpr ⟨o, HO.out.1, HO.out.2.1.trans q.symm⟩))), (q8.block b (Array.getElem?_eq_some_iff.1 H6.out.1).1 (by omega)).trans H6.out.1, e8, r8, hXb, HX.out.2.2.2, Nat.lt_of_lt_of_le (Array.getElem?_eq_some_iff.1 H6.out.1).1 q8.size⟩
      clear e7 q8 e8 x8 r8 hXb H7
      go_upto_region 8 with fail
      try rw [hW8]
      clear hW8 k5 fk
      have HS : Hid (∀ U : World, U.heap[e]? = W8.heap[e]? → U.heap[X]? = W8.heap[X]? → U.cell? ⟨e, 0, none⟩ = some (.int .i64 s.k.org) ∧ U.cell? ⟨e, 1, none⟩ = some (.int .i64 s.k.num) ∧ U.cell? ⟨e, 2, none⟩ = some (.int .i64 s.k.srv) ∧ U.cell? ⟨e, 3, none⟩ = some (.int .i64 s.k.size) ∧ U.cell? ⟨e, 4, none⟩ = some (.int .i64 s.k.red) ∧ U.cell? ⟨e, 5, none⟩ = some (.int .i64 s.k.mtu) ∧ U.cell? ⟨e, 6, none⟩ = some (.int .i64 s.k.every) ∧ U.cell? ⟨e, 7, none⟩ = some (.slice a len cap) ∧ U.cell? ⟨X, 0, none⟩ = some (.int .i64 o.p.typ) ∧ U.cell? ⟨X, 1, none⟩ = some (.int .i64 o.p.frm) ∧ U.cell? ⟨X, 2, none⟩ = some (.int .i64 o.p.to) ∧ U.cell? ⟨X, 3, none⟩ = some (.int .i64 o.p.chk) ∧ U.cell? ⟨X, 4, none⟩ = some (.int .i64 o.p.rep)) := fun U he hX => by
        obtain ⟨x0, x1, x2, x3, x4, x5, x6, x7, x8, x9, x10, x11, x12, x13, x14, x15, x16, x17, x18, x19, x20, x21⟩ := xp_cells (he.trans H8.out.1.box)
        obtain ⟨k0, k1, k2, k3, k4, _⟩ := ck_cells (hX.trans H8.out.2.2.2.1)
        rw [HR.out.2.1] at x7
        exact ⟨x0, x1, x2, x3, x4, x5, x6, x7, k0, k1, k2, k3, k4⟩
      have hSg := fun U (hU : Below W8.heap.size W8 U) => seg_any s.k o.p a zs len cap U (lies_row H8.out.2.2.2.2.1).2.2.2 (lies_row H8.out.2.2.2.2.1).2.2.1 ((lies_row H8.out.2.2.2.2.1).1.below hU) (lies_row H8.out.2.2.2.2.1).2.1
      rw [HG.out] at hSg
      have HSg : Hid (Calls Tryd.prog 16 #[.agg (srC s.k (.slice a len cap)), .agg (pcC o.p)] W8.drew (SgP g W8.drew)) := hSg W8.drew ⟨rfl, rfl, rfl, Nat.le_refl _, fun _ _ => rfl⟩
      have HS0 := HS.out W8 rfl rfl
      have HeX : Hid (e < W8.heap.size ∧ X < W8.heap.size ∧ e ≠ b ∧ X ≠ b) := ⟨(Array.getElem?_eq_some_iff.1 H8.out.1.box).1, (Array.getElem?_eq_some_iff.1 H8.out.2.2.2.1).1, by have := HO.out.2.2.2.1; omega, by have := HO.out.2.2.1; omega⟩
      clear hSg
      go_region_held3 (fun V => V.cell? ⟨e, 0, none⟩ = some (.int .i64 s.k.org) ∧ V.cell? ⟨e, 1, none⟩ = some (.int .i64 s.k.num) ∧ V.cell? ⟨e, 2, none⟩ = some (.int .i64 s.k.srv) ∧ V.cell? ⟨e, 3, none⟩ = some (.int .i64 s.k.size) ∧ V.cell? ⟨e, 4, none⟩ = some (.int .i64 s.k.red) ∧ V.cell? ⟨e, 5, none⟩ = some (.int .i64 s.k.mtu) ∧ V.cell? ⟨e, 6, none⟩ = some (.int .i64 s.k.every) ∧ V.cell? ⟨e, 7, none⟩ = some (.slice a len cap) ∧ V.cell? ⟨X, 0, none⟩ = some (.int .i64 o.p.typ) ∧ V.cell? ⟨X, 1, none⟩ = some (.int .i64 o.p.frm) ∧ V.cell? ⟨X, 2, none⟩ = some (.int .i64 o.p.to) ∧ V.cell? ⟨X, 3, none⟩ = some (.int .i64 o.p.chk) ∧ V.cell? ⟨X, 4, none⟩ = some (.int .i64 o.p.rep))
        (first | exact HS0 | exact HSU.out | exact HSU2.out | exact HSU3.out)
        (first
          | (go_at_call 16
             refine HSg.out.mono ?_
             rintro e' U ⟨ad, cd, rfl, hown, hU⟩
             have hU' : Below W8.heap.size W8 U := ⟨hU.os, hU.tape, hU.output, hU.size, hU.block⟩
             have HSU : Hid (U.cell? ⟨e, 0, none⟩ = some (.int .i64 s.k.org) ∧ U.cell? ⟨e, 1, none⟩ = some (.int .i64 s.k.num) ∧ U.cell? ⟨e, 2, none⟩ = some (.int .i64 s.k.srv) ∧ U.cell? ⟨e, 3, none⟩ = some (.int .i64 s.k.size) ∧ U.cell? ⟨e, 4, none⟩ = some (.int .i64 s.k.red) ∧ U.cell? ⟨e, 5, none⟩ = some (.int .i64 s.k.mtu) ∧ U.cell? ⟨e, 6, none⟩ = some (.int .i64 s.k.every) ∧ U.cell? ⟨e, 7, none⟩ = some (.slice a len cap) ∧ U.cell? ⟨X, 0, none⟩ = some (.int .i64 o.p.typ) ∧ U.cell? ⟨X, 1, none⟩ = some (.int .i64 o.p.frm) ∧ U.cell? ⟨X, 2, none⟩ = some (.int .i64 o.p.to) ∧ U.cell? ⟨X, 3, none⟩ = some (.int .i64 o.p.chk) ∧ U.cell? ⟨X, 4, none⟩ = some (.int .i64 o.p.rep)) := HS.out U (hU'.block e HeX.out.1) (hU'.block X HeX.out.2.1)
             have HBU : Hid (Below W8.heap.size W8 U ∧ U.ownsRow W8.heap.size 5 1 (.slice ad g.data.length cd) g.data.length (g.data.map (Value.int .u8))) := ⟨hU', hown⟩
             obtain ⟨U2, hU2⟩ : ∃ W, U.alloc (.cells #[.int .i64 g.typ, .int .i64 g.org, .int .i64 g.num, .slice none 0 0, .slice none 0 0, .int .i64 g.srv, .int .i64 g.off, .slice ad g.data.length cd, .int .i64 g.chk, .int .i64 g.rep, .int .i64 g.upp, .int .i64 g.low, .slice none 0 0, .int .i64 g.rsn] 45) = W := ⟨_, rfl⟩
             have hB2 : Below U.heap.size U U2 := by rw [← hU2]; exact (Below.refl _ _).alloc (Nat.le_refl _) _
             have HSU2 : Hid (U2.cell? ⟨e, 0, none⟩ = some (.int .i64 s.k.org) ∧ U2.cell? ⟨e, 1, none⟩ = some (.int .i64 s.k.num) ∧ U2.cell? ⟨e, 2, none⟩ = some (.int .i64 s.k.srv) ∧ U2.cell? ⟨e, 3, none⟩ = some (.int .i64 s.k.size) ∧ U2.cell? ⟨e, 4, none⟩ = some (.int .i64 s.k.red) ∧ U2.cell? ⟨e, 5, none⟩ = some (.int .i64 s.k.mtu) ∧ U2.cell? ⟨e, 6, none⟩ = some (.int .i64 s.k.every) ∧ U2.cell? ⟨e, 7, none⟩ = some (.slice a len cap) ∧ U2.cell? ⟨X, 0, none⟩ = some (.int .i64 o.p.typ) ∧ U2.cell? ⟨X, 1, none⟩ = some (.int .i64 o.p.frm) ∧ U2.cell? ⟨X, 2, none⟩ = some (.int .i64 o.p.to) ∧ U2.cell? ⟨X, 3, none⟩ = some (.int .i64 o.p.chk) ∧ U2.cell? ⟨X, 4, none⟩ = some (.int .i64 o.p.rep)) := HS.out U2 ((hU'.trans (hB2.mono hU'.size)).block e HeX.out.1) ((hU'.trans (hB2.mono hU'.size)).block X HeX.out.2.1)
             have HSU3 : Hid ((U2.setRow b #[.slice none 0 0, .slice (some ⟨U.heap.size, 0, none⟩) 1 1, .slice none 0 0, .bool false, .bool false, .bool false, .int .i64 0]).cell? ⟨e, 0, none⟩ = some (.int .i64 s.k.org) ∧ (U2.setRow b #[.slice none 0 0, .slice (some ⟨U.heap.size, 0, none⟩) 1 1, .slice none 0 0, .bool false, .bool false, .bool false, .int .i64 0]).cell? ⟨e, 1, none⟩ = some (.int .i64 s.k.num) ∧ (U2.setRow b #[.slice none 0 0, .slice (some ⟨U.heap.size, 0, none⟩) 1 1, .slice none 0 0, .bool false, .bool false, .bool false, .int .i64 0]).cell? ⟨e, 2, none⟩ = some (.int .i64 s.k.srv) ∧ (U2.setRow b #[.slice none 0 0, .slice (some ⟨U.heap.size, 0, none⟩) 1 1, .slice none 0 0, .bool false, .bool false, .bool false, .int .i64 0]).cell? ⟨e, 3, none⟩ = some (.int .i64 s.k.size) ∧ (U2.setRow b #[.slice none 0 0, .slice (some ⟨U.heap.size, 0, none⟩) 1 1, .slice none 0 0, .bool false, .bool false, .bool false, .int .i64 0]).cell? ⟨e, 4, none⟩ = some (.int .i64 s.k.red) ∧ (U2.setRow b #[.slice none 0 0, .slice (some ⟨U.heap.size, 0, none⟩) 1 1, .slice none 0 0, .bool false, .bool false, .bool false, .int .i64 0]).cell? ⟨e, 5, none⟩ = some (.int .i64 s.k.mtu) ∧ (U2.setRow b #[.slice none 0 0, .slice (some ⟨U.heap.size, 0, none⟩) 1 1, .slice none 0 0, .bool false, .bool false, .bool false, .int .i64 0]).cell? ⟨e, 6, none⟩ = some (.int .i64 s.k.every) ∧ (U2.setRow b #[.slice none 0 0, .slice (some ⟨U.heap.size, 0, none⟩) 1 1, .slice none 0 0, .bool false, .bool false, .bool false, .int .i64 0]).cell? ⟨e, 7, none⟩ = some (.slice a len cap) ∧ (U2.setRow b #[.slice none 0 0, .slice (some ⟨U.heap.size, 0, none⟩) 1 1, .slice none 0 0, .bool false, .bool false, .bool false, .int .i64 0]).cell? ⟨X, 0, none⟩ = some (.int .i64 o.p.typ) ∧ (U2.setRow b #[.slice none 0 0, .slice (some ⟨U.heap.size, 0, none⟩) 1 1, .slice none 0 0, .bool false, .bool false, .bool false, .int .i64 0]).cell? ⟨X, 1, none⟩ = some (.int .i64 o.p.frm) ∧ (U2.setRow b #[.slice none 0 0, .slice (some ⟨U.heap.size, 0, none⟩) 1 1, .slice none 0 0, .bool false, .bool false, .bool false, .int .i64 0]).cell? ⟨X, 2, none⟩ = some (.int .i64 o.p.to) ∧ (U2.setRow b #[.slice none 0 0, .slice (some ⟨U.heap.size, 0, none⟩) 1 1, .slice none 0 0, .bool false, .bool false, .bool false, .int .i64 0]).cell? ⟨X, 3, none⟩ = some (.int .i64 o.p.chk) ∧ (U2.setRow b #[.slice none 0 0, .slice (some ⟨U.heap.size, 0, none⟩) 1 1, .slice none 0 0, .bool false, .bool false, .bool false, .int .i64 0]).cell? ⟨X, 4, none⟩ = some (.int .i64 o.p.rep)) := HS.out _ (((grown_row U2 b #[.slice none 0 0, .slice (some ⟨U.heap.size, 0, none⟩) 1 1, .slice none 0 0, .bool false, .bool false, .bool false, .int .i64 0]).block e (Nat.lt_of_lt_of_le HeX.out.1 (hU'.trans (hB2.mono hU'.size)).size) (fun q => HeX.out.2.2.1 (Option.some.inj q))).trans ((hU'.trans (hB2.mono hU'.size)).block e HeX.out.1)) (((grown_row U2 b #[.slice none 0 0, .slice (some ⟨U.heap.size, 0, none⟩) 1 1, .slice none 0 0, .bool false, .bool false, .bool false, .int .i64 0]).block X (Nat.lt_of_lt_of_le HeX.out.2.1 (hU'.trans (hB2.mono hU'.size)).size) (fun q => HeX.out.2.2.2 (Option.some.inj q))).trans ((hU'.trans (hB2.mono hU'.size)).block X HeX.out.2.1))
             have hb2 : U2.heap[b]? = some mvZ := ((hU'.trans (hB2.mono hU'.size)).block b H8.out.2.2.2.2.2.2.2).trans H8.out.2.2.1
             have hst : Storable Tryd.prog 37 U2 (.pointer (some ⟨b, 0, none⟩)) (.agg #[.slice none 0 0, .slice (some ⟨U.heap.size, 0, none⟩) 1 1, .slice none 0 0, .bool false, .bool false, .bool false, .int .i64 0]) := ⟨b, _, _, _, rfl, rfl, hb2, rfl, size_mov, by simp [Value.oneCell']⟩
             have HU2 : Hid (U2.heap[U.heap.size]? = some (.cells #[.int .i64 g.typ, .int .i64 g.org, .int .i64 g.num, .slice none 0 0, .slice none 0 0, .int .i64 g.srv, .int .i64 g.off, .slice ad g.data.length cd, .int .i64 g.chk, .int .i64 g.rep, .int .i64 g.upp, .int .i64 g.low, .slice none 0 0, .int .i64 g.rsn] 45) ∧ Below U.heap.size U U2 ∧ U2.heap[b]? = some mvZ) := ⟨by rw [← hU2]; exact heap_alloc_new' U _, hB2, hb2⟩
             clear hown hU hU' hB2 hb2))
      have HZ : Hid ((U2.setRow b #[.slice none 0 0, .slice (some ⟨U.heap.size, 0, none⟩) 1 1, .slice none 0 0, .bool false, .bool false, .bool false, .int .i64 0]).heap[b]? = some (mvO (.slice none 0 0) (.slice (some ⟨U.heap.size, 0, none⟩) 1 1) (.slice none 0 0) false false false 0)) := setRow_heap _ _ _ _ _ _ HU2.out.2.2
      go_wp2_with fail
      have hlv := fun j => cell_of_row _ b j _ _ _ HZ.out
      refine bodyPost_ret (v := .agg (mvC (.slice none 0 0) (.slice (some ⟨U.heap.size, 0, none⟩) 1 1) (.slice none 0 0) false false false 0)) (by simp [results, Tryd.results8, go_sem, mvC, hlv]) rfl ?_
      have hgr := grown_row U2 b #[.slice none 0 0, .slice (some ⟨U.heap.size, 0, none⟩) 1 1, .slice none 0 0, .bool false, .bool false, .bool false, .int .i64 0]
      have hz := H8.out.2.2.2.2.2.2.1
      have hzb := H8.out.2.2.2.2.2.2.2
      have bU : Below W8.heap.size W8 U2 := HBU.out.1.trans (HU2.out.2.1.mono HBU.out.1.size)
      have hUs := HBU.out.1.size
      have hnb : ∀ y o', U2.heap[y]? = some o' → y ≠ b → (U2.setRow b #[.slice none 0 0, .slice (some ⟨U.heap.size, 0, none⟩) 1 1, .slice none 0 0, .bool false, .bool false, .bool false, .int .i64 0]).heap[y]? = some o' := fun y o' h1 h2 => (hgr.block y (Array.getElem?_eq_some_iff.1 h1).1 (fun q => h2 (Option.some.inj q))).trans h1
      unfold LtP
      rw [if_neg (show ¬ o.ag ≥ s.ret by have := HGe.out; omega), hz]
      refine ⟨_, .slice ad g.data.length cd, rfl, ⟨⟨rfl, .inr ⟨U.heap.size, 1, _, rfl, by omega, hnb _ _ HU2.out.1 (by omega), Nat.le_refl _, by unfold maxLen; omega, rfl, rfl⟩⟩, fun y hy => ?_⟩, ?_, ?_⟩
      · rw [List.mem_singleton.mp hy]
        have r0 := own_at HBU.out.2 (fun y hy => HU2.out.2.1.block y (World.ownsRow.lt HBU.out.2 y hy).2)
        exact own_low (own_at r0 (fun y hy => hgr.block y (World.ownsRow.lt r0 y hy).2 (fun q => by have := (World.ownsRow.lt r0 y hy).1; have := Option.some.inj q; omega))) (by omega)
      · exact (H8.out.1.below bU).keep (S := fun y => y = b) ⟨hgr.os, hgr.tape, hgr.output, hgr.size, fun y hl hn => hgr.block y hl (fun q => hn (Option.some.inj q))⟩ (fun y hy q => by
          have h1 := HO.out.2.2.2.2.2.lt y ((xf_up (f := agO) (fun _ => rfl)).mp hy)
          omega)
      · exact (H8.out.2.1.below bU).grown hgr (fun y q => .inr (by have := Option.some.inj q; omega))
end Go.Proofs.YtcfodcioeefbeaaDoor.X
