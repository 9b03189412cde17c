import Derived.Test.YtcfodcioeefbeaaDoorXpI
namespace Go.Proofs.YtcfodcioeefbeaaDoor.X
open Go.RowKit Go.Maps
set_option linter.unusedVariables false
set_option linter.unusedSimpArgs false

def btX (n lo hi : Int) : Bool := decide (lo ≤ n) && decide (n ≤ hi)
theorem between_any (w : World) (n lo hi : Int) : Calls Tryd.prog 13 #[.int .i64 n, .int .i64 lo, .int .i64 hi] w fun e w' => e = .returned (.bool (btX n lo hi)) ∧ w' = w := by
  unfold btX
  go_enter Tryd.func13, Tryd.ntmps13
  by_cases h1 : lo ≤ n
  · by_cases h2 : n ≤ hi
    · go_wp2
      go_ret
      exact ⟨by simp [h1, h2], rfl⟩
    · go_wp2
      go_ret
      exact ⟨by simp; omega, rfl⟩
  · go_wp2
    go_ret
    exact ⟨by simp; omega, rfl⟩
theorem bytesOf_any (w : World) (k : Pk) (again : Bool) : Calls Tryd.prog 11 #[.agg (pclC k), .bool again] w fun e w' => e = .returned (.int .i64 (if again = true then k.red else k.size)) ∧ Below w.heap.size w w' := by
  obtain ⟨V1, hV1⟩ : ∃ V, w.alloc (.cells (pclC k) 25) = V := ⟨_, rfl⟩
  have hB1 : Below w.heap.size w V1 := by rw [← hV1]; exact (Below.refl _ _).alloc (Nat.le_refl _) _
  obtain ⟨b, hb⟩ : ∃ b, w.heap.size = b := ⟨_, rfl⟩
  have g1 : V1.heap[b]? = some (.cells (pclC k) 25) := by rw [← hV1, ← hb]; exact heap_alloc_new' w _
  have HB : Hid (Below w.heap.size w V1) := hB1
  have HV : Hid (w.alloc (.cells (pclC k) 25) = V1) := hV1
  obtain ⟨p0, p1, p2, p3, p4, _⟩ := box5 g1
  clear hB1 g1 hV1
  go_enter Tryd.func11, Tryd.ntmps11
  go_upto_region 1 with fail
  try rw [hb]
  rw [HV.out]
  clear hb
  cases again
  · go_wp2
    go_ret
    exact ⟨rfl, HB.out⟩
  · go_wp2
    go_ret
    exact ⟨rfl, HB.out⟩
set_option maxHeartbeats 2000000 in
theorem rules_any (w : World) (rt cy : Int) : Calls Tryd.prog 12 #[.agg #[.int .i64 rt, .int .i64 cy]] w fun e w' => e = .returned (.bool (btX rt 1 100 && btX cy 1 1000)) ∧ Below w.heap.size w w' := by
  obtain ⟨V1, hV1⟩ : ∃ V, w.alloc (.cells #[.int .i64 rt, .int .i64 cy] 28) = V := ⟨_, rfl⟩
  have hB1 : Below w.heap.size w V1 := by rw [← hV1]; exact (Below.refl _ _).alloc (Nat.le_refl _) _
  obtain ⟨b, hb⟩ : ∃ b, w.heap.size = b := ⟨_, rfl⟩
  have g1 : V1.heap[b]? = some (.cells #[.int .i64 rt, .int .i64 cy] 28) := by rw [← hV1, ← hb]; exact heap_alloc_new' w _
  have HB : Hid (Below w.heap.size w V1) := hB1
  have HV : Hid (w.alloc (.cells #[.int .i64 rt, .int .i64 cy] 28) = V1) := hV1
  have p0 : V1.cell? ⟨b, 0, none⟩ = some (.int .i64 rt) := (cell_of_row _ _ _ _ _ _ g1).trans rfl
  have p1 : V1.cell? ⟨b, 1, none⟩ = some (.int .i64 cy) := (cell_of_row _ _ _ _ _ _ g1).trans rfl
  have b1 := between_any V1 rt 1 100
  have b2 := between_any V1 cy 1 1000
  obtain ⟨B1, h1⟩ : ∃ B, btX rt 1 100 = B := ⟨_, rfl⟩
  obtain ⟨B2, h2⟩ : ∃ B, btX cy 1 1000 = B := ⟨_, rfl⟩
  rw [h1] at b1 ⊢
  rw [h2] at b2 ⊢
  clear hB1 g1 hV1 h1 h2
  go_enter Tryd.func12, Tryd.ntmps12
  go_upto_region 1 with fail
  try rw [hb]
  rw [HV.out]
  clear hb
  cases B1
  · go_wp2_with fail
    refine b1.mono ?_
    rintro e w2 ⟨rfl, rfl⟩
    go_wp2
    go_ret
    exact ⟨rfl, HB.out⟩
  · go_wp2_with fail
    refine b1.mono ?_
    rintro e w2 ⟨rfl, rfl⟩
    go_wp2_with fail
    refine b2.mono ?_
    rintro e w2 ⟨rfl, rfl⟩
    go_wp2
    go_ret
    exact ⟨by simp, HB.out⟩
theorem Below.dr {w X : World} (h : Below w.heap.size w X) : Below w.heap.size w X.drew := ⟨h.os, h.tape, h.output, h.size, h.block⟩
theorem Below.al {w X : World} (h : Below w.heap.size w X) (ob : Obj) : Below w.heap.size w (X.alloc ob) := h.alloc h.size ob
theorem al_a1 (w : World) (o1 o2 : Obj) : ((w.alloc o1).alloc o2).heap[w.heap.size]? = some o1 := (Below.heap_alloc _ _ _ (by simp)).trans (heap_alloc_new' w o1)
theorem al_a2 (w : World) (o1 o2 : Obj) : ((w.alloc o1).alloc o2).heap[w.heap.size + 1]? = some o2 := by
  have := heap_alloc_new' (w.alloc o1) o2
  rwa [World.size_alloc] at this
theorem al_b1 {W w8 : World} {o1 o2 : Obj} (hb : Below ((W.alloc o1).drew).heap.size ((W.alloc o1).drew) w8) : (w8.alloc o2).heap[W.heap.size]? = some o1 := by
  have hs : W.heap.size < ((W.alloc o1).drew).heap.size := by show _ < (W.alloc o1).heap.size; simp
  exact (Below.heap_alloc _ _ _ (Nat.lt_of_lt_of_le hs hb.size)).trans ((hb.block _ hs).trans (heap_alloc_new' W o1))
theorem al_c1 {W w8 : World} {o1 o2 : Obj} (hb : Below (((W.alloc o1).alloc o2).drew).heap.size (((W.alloc o1).alloc o2).drew) w8) : w8.heap[W.heap.size]? = some o1 := by
  have hs : W.heap.size < (((W.alloc o1).alloc o2).drew).heap.size := by show _ < ((W.alloc o1).alloc o2).heap.size; simp; omega
  exact (hb.block _ hs).trans (al_a1 W o1 o2)
theorem al_c2 {W w8 : World} {o1 o2 : Obj} (hb : Below (((W.alloc o1).alloc o2).drew).heap.size (((W.alloc o1).alloc o2).drew) w8) : w8.heap[W.heap.size + 1]? = some o2 := by
  have hs : W.heap.size + 1 < (((W.alloc o1).alloc o2).drew).heap.size := by show _ < ((W.alloc o1).alloc o2).heap.size; simp
  exact (hb.block _ hs).trans (al_a2 W o1 o2)
theorem op_end {W7 w8 Z : World} {k : Pk} {ret cyc base : Int} {last : Pc} {again : Bool} {R : Nat} {xs : List Value} {va : Option Addr} {vc : Nat} {e m rm : Nat} {ob : Obj} (he : e = Z.heap.size) (hob : ob = .cells (xpC ⟨k, .slice va R vc, ret, cyc, last, again, base, .slice none 0 0, 0, false⟩ m rm) 63) (hA : Below W7.heap.size W7 w8) (hZ : Below w8.heap.size w8 Z) (hrow : w8.ownsRow W7.heap.size 5 1 (.slice va R vc) R xs) (hm : Z.heap[m]? = some (.map #[] 0)) (hmz : W7.heap.size ≤ m) :
    ∃ m rm bv, Xm (Z.alloc ob) e m rm 0 ⟨k, bv, ret, cyc, last, again, base, .slice none 0 0, 0, false⟩ [] ∧ (∀ g, XF e m [] g → W7.heap.size ≤ g) ∧ (Z.alloc ob).ownsRow W7.heap.size 5 1 bv R xs ∧ Below W7.heap.size W7 (Z.alloc ob) := by
  subst he hob
  have hB := Below.al (w := Z) (X := Z) (Below.refl _ _) (.cells (xpC ⟨k, .slice va R vc, ret, cyc, last, again, base, .slice none 0 0, 0, false⟩ m rm) 63)
  have h8 := hZ.trans (hB.mono hZ.size)
  have hWZ := hA.trans (hZ.mono hA.size)
  refine ⟨m, rm, .slice va R vc, ⟨heap_alloc_new' Z _, ⟨(hB.block m (Array.getElem?_eq_some_iff.1 hm).1).trans hm, List.nodup_nil, List.nodup_nil, fun e he => (by cases he)⟩, fun o ho => (by cases ho), List.nodup_nil⟩, fun g hg => ?_, own_at hrow (fun y hy => h8.block y (World.ownsRow.lt hrow y hy).2), hWZ.trans (hB.mono hWZ.size)⟩
  rcases hg with q | q | q
  · rw [q]; exact hWZ.size
  · rw [q]; exact hmz
  · cases q
/-- What Open leaves, of what may be. -/
def OpS (w : World) (k : Pk) (zs : List Int) (ret cyc base : Int) (again : Bool) (r : Ending) (w' : World) : Prop :=
  ∃ e m rm c P last O Y bv v, r = .returned (.tuple #[.pointer (some ⟨e, 0, none⟩), .agg (mvC (.slice none 0 0) v (.slice none 0 0) false false false 0), .int .i64 0]) ∧ OpL k base again P ∧ P.getLast? = some last ∧
    Xm w' e m rm c ⟨k, bv, ret, cyc, last, again, lstC base P, .slice none 0 0, 0, false⟩ O ∧ (∀ g, XF e m O g → w.heap.size ≤ g) ∧ O.map Oc.p = ckp P ∧ (∀ o ∈ O, o.wt = true ∧ o.ag = 0) ∧
    Sgs w' w.heap.size v Y ∧ Y.map Prod.fst = P.map (fun p => (mk k p zs).1) ∧ w'.ownsRow w.heap.size 5 1 bv (zs.take k.red.toNat).length ((zs.take k.red.toNat).map (Value.int .u8)) ∧ Below w.heap.size w w'
def OpP (w : World) (k : Pk) (zs : List Int) (ret cyc base : Int) (again : Bool) (r : Ending) (w' : World) : Prop :=
  (¬ OpK k zs.length ret cyc base again ∧ ∃ er, er ≠ 0 ∧ r = .returned (.tuple #[.pointer none, .agg (mvC (.slice none 0 0) (.slice none 0 0) (.slice none 0 0) false false false 0), .int .i64 er]) ∧ Below w.heap.size w w') ∨
  (OpK k zs.length ret cyc base again ∧ OpS w k zs ret cyc base again r w')
attribute [local go_sem ↓] wp_store_whole
attribute [local go_sem] pBlk_ptr pAgg_agg
set_option maxRecDepth 100000 in
set_option maxHeartbeats 16000000 in
theorem open_any {w : World} (hT : Tab w) (k : Pk) (a : Option Addr) (zs : List Int) (len cap : Nat) (hl : zs.length = len) (hlc : len ≤ cap) (hc : Lies .u8 w a zs) (hn : a = none → len = 0 ∧ cap = 0) (ret cyc base : Int) (again : Bool) :
    Calls Tryd.prog 5 #[.agg #[.int .i64 k.org, .int .i64 k.num], .agg (pclC k), .slice a len cap, .agg #[.int .i64 ret, .int .i64 cyc], .int .i64 base, .bool again] w (OpP w k zs ret cyc base again) := by
  obtain ⟨i0, hi, hz0, hz1, hz2⟩ := info_parts Tryd.info_u8
  obtain ⟨b, hb⟩ : ∃ b, w.heap.size = b := ⟨_, rfl⟩
  obtain ⟨V1, hV1⟩ : ∃ V, w.alloc (.cells #[.int .i64 k.org, .int .i64 k.num] 23) = V := ⟨_, rfl⟩
  obtain ⟨V2, hV2⟩ : ∃ V, V1.alloc (.cells (pclC k) 25) = V := ⟨_, rfl⟩
  obtain ⟨V3, hV3⟩ : ∃ V, V2.alloc (.cells #[.int .i64 ret, .int .i64 cyc] 28) = V := ⟨_, rfl⟩
  obtain ⟨V4, hV4⟩ : ∃ V, V3.alloc mvZ = V := ⟨_, rfl⟩
  have z1 : V1.heap.size = b + 1 := by rw [← hV1, ← hb]; simp
  have z2 : V2.heap.size = b + 2 := by rw [← hV2]; simp [z1]
  have z3 : V3.heap.size = b + 3 := by rw [← hV3]; simp [z2]
  have z4 : V4.heap.size = b + 4 := by rw [← hV4]; simp [z3]
  have B1 : Below w.heap.size w V1 := by rw [← hV1]; exact (Below.refl _ _).alloc (Nat.le_refl _) _
  have B2 : Below V1.heap.size V1 V2 := by rw [← hV2]; exact (Below.refl _ _).alloc (Nat.le_refl _) _
  have B3 : Below V2.heap.size V2 V3 := by rw [← hV3]; exact (Below.refl _ _).alloc (Nat.le_refl _) _
  have B4 : Below V3.heap.size V3 V4 := by rw [← hV4]; exact (Below.refl _ _).alloc (Nat.le_refl _) _
  have g1 : V1.heap[b]? = some (.cells #[.int .i64 k.org, .int .i64 k.num] 23) := by rw [← hV1, ← hb]; exact heap_alloc_new' w _
  have g2 : V2.heap[b + 1]? = some (.cells (pclC k) 25) := by rw [← hV2, ← z1]; exact heap_alloc_new' V1 _
  have g3 : V3.heap[b + 2]? = some (.cells #[.int .i64 ret, .int .i64 cyc] 28) := by rw [← hV3, ← z2]; exact heap_alloc_new' V2 _
  have g4 : V4.heap[b + 3]? = some mvZ := by rw [← hV4, ← z3]; exact heap_alloc_new' V3 _
  have B34 := B3.trans (B4.mono B3.size)
  have B24 := B2.trans (B34.mono B2.size)
  have BB := B1.trans (B24.mono B1.size)
  have HV : Hid (w.alloc (.cells #[.int .i64 k.org, .int .i64 k.num] 23) = V1 ∧ V1.alloc (.cells (pclC k) 25) = V2 ∧ V2.alloc (.cells #[.int .i64 ret, .int .i64 cyc] 28) = V3 ∧ V3.alloc mvZ = V4 ∧ w.heap.size = b ∧ V1.heap.size = b + 1 ∧ V2.heap.size = b + 2 ∧ V3.heap.size = b + 3) := ⟨hV1, hV2, hV3, hV4, hb, z1, z2, z3⟩
  have HB : Hid (Below w.heap.size w V4 ∧ V4.heap[b]? = some (.cells #[.int .i64 k.org, .int .i64 k.num] 23) ∧ V4.heap[b + 1]? = some (.cells (pclC k) 25) ∧ V4.heap[b + 2]? = some (.cells #[.int .i64 ret, .int .i64 cyc] 28) ∧ V4.heap[b + 3]? = some mvZ ∧ w.heap.size = b ∧ V4.heap.size = b + 4) := ⟨BB, (B24.block b (by omega)).trans g1, (B34.block (b + 1) (by omega)).trans g2, (B4.block (b + 2) (by omega)).trans g3, g4, hb, z4⟩
  have HP : Hid (Tab w ∧ zs.length = len ∧ len ≤ cap ∧ Lies .u8 w a zs ∧ (a = none → len = 0 ∧ cap = 0)) := ⟨hT, hl, hlc, hc, hn⟩
  have h00 : 0 < w.heap.size := World.block_lt_of_cell? w ⟨0, 0, none⟩ (hT 0 (by omega))
  have hCut := cut_any k base V4 (hT.below BB h00)
  obtain ⟨L, hL⟩ : ∃ L, (cut k base).1 = L := ⟨_, rfl⟩
  obtain ⟨er, her⟩ : ∃ L, (cut k base).2 = L := ⟨_, rfl⟩
  have HCt : Hid ((cut k base).1 = L ∧ (cut k base).2 = er) := ⟨hL, her⟩
  have hCut : Calls Tryd.prog 10 #[.agg #[.int .i64 k.org, .int .i64 k.num], .agg #[.int .i64 k.srv, .int .i64 k.size, .int .i64 k.red, .int .i64 k.mtu, .int .i64 k.every], .int .i64 base] V4 fun e w' => ∃ v, e = .returned (.tuple #[v, .int .i64 er]) ∧ POwn w' V4.heap.size v L ∧ Below V4.heap.size V4 w' := by
    unfold CutPost at hCut
    rw [hL, her] at hCut
    exact hCut
  clear hT hl hlc hc hn hV1 hV2 hV3 hV4 z1 z2 z3 z4 B1 B2 B3 B4 g1 g2 g3 g4 B34 B24 BB h00 hL her
  go_enter Tryd.func5, Tryd.ntmps5
  go_upto_region 1 with fail
  try rw [hb]
  rw [HV.out.1, HV.out.2.1, HV.out.2.2.1, HV.out.2.2.2.1]
  try rw [HV.out.2.2.2.2.2.1]
  try rw [HV.out.2.2.2.2.2.2.1]
  try rw [HV.out.2.2.2.2.2.2.2]
  clear hb HV
  have HErr : Hid (∀ W e', Below w.heap.size w W → W.heap[b + 3]? = some mvZ → e' ≠ 0 → ¬ OpK k zs.length ret cyc base again → OpP w k zs ret cyc base again (.returned (.tuple #[.pointer none, .agg (mvC (.slice none 0 0) (.slice none 0 0) (.slice none 0 0) false false false 0), .int .i64 e'])) (W.setRow (b + 3) #[.slice none 0 0, .slice none 0 0, .slice none 0 0, .bool false, .bool false, .bool false, .int .i64 0])) := fun W e' h1 h2 h3 h4 => .inl ⟨h4, e', h3, rfl, below_setRow h1 (by have := HB.out.2.2.2.2.2.1; omega) _⟩
  by_cases hlong : 65536 < len
  · have hl' : (len : Int) > 65536 := by omega
    have hst : Storable Tryd.prog 37 V4 (.pointer (some ⟨b + 3, 0, none⟩)) (.agg #[.slice none 0 0, .slice none 0 0, .slice none 0 0, .bool false, .bool false, .bool false, .int .i64 0]) := ⟨b + 3, _, _, _, rfl, rfl, HB.out.2.2.2.2.1, rfl, size_mov, by simp [Value.oneCell']⟩
    go_wp2
    have HZ : Hid ((V4.setRow (b + 3) #[.slice none 0 0, .slice none 0 0, .slice none 0 0, .bool false, .bool false, .bool false, .int .i64 0]).heap[b + 3]? = some mvZ) := setRow_heap _ _ _ _ _ _ HB.out.2.2.2.2.1
    have hlv := fun j => cell_of_row _ (b + 3) j _ _ _ HZ.out
    refine bodyPost_ret (v := .tuple #[.pointer none, .agg (mvC (.slice none 0 0) (.slice none 0 0) (.slice none 0 0) false false false 0), .int .i64 2]) (by simp [results, Tryd.results5, go_sem, mvC, hlv]) rfl ?_
    exact HErr.out V4 2 HB.out.1 HB.out.2.2.2.2.1 (by decide) (fun q => by have h1 := q.ln; have h2 := q.ok.size; have h3 := q.ok.red; have h4 := HP.out.2.1; split at h1 <;> omega)
  have hl' : ¬ (len : Int) > 65536 := by omega
  have q0 : V4.cell? ⟨b, 0, none⟩ = some (.int .i64 k.org) := (cell_of_row _ _ _ _ _ _ HB.out.2.1).trans rfl
  have q1 : V4.cell? ⟨b, 1, none⟩ = some (.int .i64 k.num) := (cell_of_row _ _ _ _ _ _ HB.out.2.1).trans rfl
  obtain ⟨p0, p1, p2, p3, p4, _⟩ := box5 HB.out.2.2.1
  go_upto_region 4 with (go_at_call 10; refine hCut.mono ?_; rintro e w2 ⟨v, rfl, hpo, hb2⟩; have H2 : Hid (POwn w2 V4.heap.size v L ∧ Below V4.heap.size V4 w2) := ⟨hpo, hb2⟩; obtain ⟨pa, pc, rfl⟩ := own_sl hpo; clear hpo hb2 hCut)
  try rw [show b + 1 + 1 + 1 = b + 3 from rfl]
  try rw [show b + 1 + 1 = b + 2 from rfl]
  clear q0 q1 p0 p1 p2 p3 p4
  have hb24 : Below w.heap.size w w2 := HB.out.1.trans (H2.out.2.mono HB.out.1.size)
  have k2 : ∀ g o, V4.heap[g]? = some o → w2.heap[g]? = some o := fun g o h => (H2.out.2.block g (Array.getElem?_eq_some_iff.1 h).1).trans h
  have H3 : Hid (Below w.heap.size w w2 ∧ w2.heap[b]? = some (.cells #[.int .i64 k.org, .int .i64 k.num] 23) ∧ w2.heap[b + 1]? = some (.cells (pclC k) 25) ∧ w2.heap[b + 2]? = some (.cells #[.int .i64 ret, .int .i64 cyc] 28) ∧ w2.heap[b + 3]? = some mvZ) := ⟨hb24, k2 _ _ HB.out.2.1, k2 _ _ HB.out.2.2.1, k2 _ _ HB.out.2.2.2.1, k2 _ _ HB.out.2.2.2.2.1⟩
  clear hb24 k2
  by_cases her : er = 0
  · have HE0 : Hid (k.Ok ∧ (0 ≤ base ∧ base ≤ 4611686018427322367) ∧ L = cutL k base) := by
      have c1 := HCt.out.1
      have c2 := HCt.out.2
      rw [her] at c2
      unfold cut at c1 c2
      by_cases e1 : sesB k = false
      · rw [if_pos e1] at c2; simp at c2
      · rw [if_neg e1] at c1 c2
        by_cases e2 : pclB k = false
        · rw [if_pos e2] at c2; simp at c2
        · rw [if_neg e2] at c1 c2
          by_cases e3 : base < 0 ∨ 4611686018427387903 - 65536 < base
          · rw [if_pos e3] at c2; simp at c2
          · rw [if_neg e3] at c1
            exact ⟨Pk.ok_of (by simpa using e1) (by simpa using e2), by omega, c1.symm⟩
    clear HCt
    subst her
    obtain ⟨p0, p1, p2, p3, p4, _⟩ := box5 H3.out.2.2.1
    have q0 : w2.cell? ⟨b + 2, 0, none⟩ = some (.int .i64 ret) := (cell_of_row _ _ _ _ _ _ H3.out.2.2.2.1).trans rfl
    have q1 : w2.cell? ⟨b + 2, 1, none⟩ = some (.int .i64 cyc) := (cell_of_row _ _ _ _ _ _ H3.out.2.2.2.1).trans rfl
    obtain ⟨Z, hZ⟩ : ∃ Z, (if again = true then k.red else k.size) = Z := ⟨_, rfl⟩
    obtain ⟨R1, hR1⟩ : ∃ B, (btX ret 1 100 && btX cyc 1 1000) = B := ⟨_, rfl⟩
    obtain ⟨R2, hR2⟩ : ∃ B, btX base 0 4611686018410610687 = B := ⟨_, rfl⟩
    obtain ⟨BB, hBB⟩ : ∃ B, ((again && decide (k.red = 0)) || !decide ((len : Int) = Z) || !R1 || !R2) = B := ⟨_, rfl⟩
    have HI1 : Hid (R1 = false → BB = true) := fun e => by rw [← hBB, e]; simp
    have HI2 : Hid (R2 = false → BB = true) := fun e => by rw [← hBB, e]; simp
    have HI3 : Hid ((len : Int) ≠ Z → BB = true) := fun e => by rw [← hBB, decide_eq_false e]; simp
    have HI4 : Hid (again = true ∧ k.red = 0 → BB = true) := fun e => by rw [← hBB, e.1, decide_eq_true e.2]; simp
    have HI5 : Hid ((again = false ∨ k.red ≠ 0) → (len : Int) = Z → R1 = true → R2 = true → BB = false) := fun e1 e2 e3 e4 => by rw [← hBB, e3, e4, decide_eq_true e2]; cases again <;> simp_all
    have HCo : Hid ((if again = true then k.red else k.size) = Z ∧ (btX ret 1 100 && btX cyc 1 1000) = R1 ∧ btX base 0 4611686018410610687 = R2 ∧ ((again && decide (k.red = 0)) || !decide ((len : Int) = Z) || !R1 || !R2) = BB) := ⟨hZ, hR1, hR2, hBB⟩
    have hBy := bytesOf_any w2 k again
    rw [hZ] at hBy
    have hRu0 := fun U => rules_any U ret cyc
    rw [hR1] at hRu0
    have hBt0 := fun U => between_any U base 0 4611686018410610687
    rw [hR2] at hBt0
    have HOn : Hid (BB = true → ¬ OpK k zs.length ret cyc base again) := fun e q => by
      have h1 := q.rt
      have h2 := q.cy
      have h3 := q.hb
      have h4 := q.ln
      have h5 := q.ar
      rw [HP.out.2.1, hZ] at h4
      have e1 : R1 = true := by rw [← hR1]; simp only [btX, Bool.and_eq_true, decide_eq_true_eq]; omega
      have e2 : R2 = true := by rw [← hR2]; simp only [btX, Bool.and_eq_true, decide_eq_true_eq]; omega
      have e3 : (again && decide (k.red = 0)) = false := by
        cases again
        · rfl
        · have := h5 rfl
          rw [decide_eq_false (by omega)]
          rfl
      rw [e1, e2, e3, decide_eq_true h4] at hBB
      rw [← hBB] at e
      cases e
    have HOp : Hid (BB = false → OpK k zs.length ret cyc base again) := fun e => by
      rw [← hBB] at e
      simp only [Bool.or_eq_false_iff, Bool.and_eq_false_iff, Bool.not_eq_false', decide_eq_true_eq, decide_eq_false_iff_not] at e
      obtain ⟨⟨⟨e1, e2⟩, e3⟩, e4⟩ := e
      rw [← hR1] at e3
      rw [← hR2] at e4
      simp only [btX, Bool.and_eq_true, decide_eq_true_eq] at e3 e4
      have hr := HE0.out.1.red
      refine ⟨HE0.out.1, by omega, fun q => ?_, by rw [HP.out.2.1, e2, ← hZ], by omega, by omega⟩
      rcases e1 with e1 | e1
      · rw [q] at e1; cases e1
      · omega
    have HLl : Hid (L.length ≤ 262144) := by
      rw [HE0.out.2.2]
      have := cutL_len HE0.out.1 base
      show (cutL k base).length ≤ _
      unfold cutL
      rw [List.length_append]
      omega
    clear hZ hR1 hR2 hBB
    go_upto_region 6 with fail
    go_cut [56] from 33 to 56 (fun q wx => q = .bool BB ∧ Hid (Below w2.heap.size w2 wx))
    case first =>
      cases again
      · have HRd : Hid ((false && decide (k.red = 0)) = false) := rfl
        have HQF : Hid ((len : Int) = Z → R1 = true → R2 = true → BB = false) := fun a b c => HI5.out (.inl rfl) a b c
        go_wp2_with fail
        refine hBy.mono ?_
        rintro e w3 ⟨rfl, hb3⟩
        have HB3 : Hid (Below w2.heap.size w2 w3) := hb3
        have y0 : w3.cell? ⟨b + 2, 0, none⟩ = some (.int .i64 ret) := (cell_of_row _ _ _ _ _ _ ((hb3.block _ (Array.getElem?_eq_some_iff.1 H3.out.2.2.2.1).1).trans H3.out.2.2.2.1)).trans rfl
        have y1 : w3.cell? ⟨b + 2, 1, none⟩ = some (.int .i64 cyc) := (cell_of_row _ _ _ _ _ _ ((hb3.block _ (Array.getElem?_eq_some_iff.1 H3.out.2.2.2.1).1).trans H3.out.2.2.2.1)).trans rfl
        clear hb3 hBy
        by_cases hln : (len : Int) = Z
        · have n1 : ((len : Int) != Z) = false := by simpa using hln
          have n2 : decide ((len : Int) = Z) = true := decide_eq_true hln
          have HLn : Hid ((len : Int) = Z) := hln
          clear hln
          have hRu := hRu0 w3
          go_wp2_with fail
          refine hRu.mono ?_
          rintro e w4 ⟨rfl, hb4⟩
          have HB4 : Hid (Below w2.heap.size w2 w4) := HB3.out.trans (hb4.mono HB3.out.size)
          clear hb4 hRu
          cases R1
          · have HQ : Hid (BB = true) := HI1.out rfl
            go_wp2_with fail
            go_meet
            exact ⟨by rw [HQ.out], HB4.out⟩
          · have hBt := hBt0 w4
            go_wp2_with fail
            refine hBt.mono ?_
            rintro e w5 ⟨rfl, rfl⟩
            cases R2
            · have HQ : Hid (BB = true) := HI2.out rfl
              go_wp2_with fail
              go_meet
              exact ⟨by rw [HQ.out], HB4.out⟩
            · have HQ : Hid (BB = false) := by first | exact HQF.out HLn.out rfl rfl | exact HQF.out HLn.out trivial rfl | exact HQF.out HLn.out trivial trivial | exact HQF.out HLn.out trivial
              go_wp2_with fail
              go_meet
              exact ⟨by rw [HQ.out], HB4.out⟩
        · have n1 : ((len : Int) != Z) = true := by simpa using hln
          have n2 : decide ((len : Int) = Z) = false := decide_eq_false hln
          have HQ : Hid (BB = true) := HI3.out hln
          clear hln
          go_wp2_with fail
          go_meet
          exact ⟨by rw [HQ.out], HB3.out⟩
      · by_cases hr : k.red = 0
        · have r1 : (k.red == 0) = true := by simpa using hr
          have r2 : decide (k.red = 0) = true := decide_eq_true hr
          have HQ : Hid (BB = true) := HI4.out ⟨rfl, hr⟩
          clear hr
          go_wp2_with fail
          go_meet
          exact ⟨by rw [HQ.out], Below.refl _ _⟩
        · have r1 : (k.red == 0) = false := by simpa using hr
          have r2 : decide (k.red = 0) = false := decide_eq_false hr
          have HRd : Hid ((true && decide (k.red = 0)) = false) := by rw [r2]; rfl
          have HQF : Hid ((len : Int) = Z → R1 = true → R2 = true → BB = false) := fun a b c => HI5.out (.inr hr) a b c
          clear hr
          go_wp2_with fail
          refine hBy.mono ?_
          rintro e w3 ⟨rfl, hb3⟩
          have HB3 : Hid (Below w2.heap.size w2 w3) := hb3
          have y0 : w3.cell? ⟨b + 2, 0, none⟩ = some (.int .i64 ret) := (cell_of_row _ _ _ _ _ _ ((hb3.block _ (Array.getElem?_eq_some_iff.1 H3.out.2.2.2.1).1).trans H3.out.2.2.2.1)).trans rfl
          have y1 : w3.cell? ⟨b + 2, 1, none⟩ = some (.int .i64 cyc) := (cell_of_row _ _ _ _ _ _ ((hb3.block _ (Array.getElem?_eq_some_iff.1 H3.out.2.2.2.1).1).trans H3.out.2.2.2.1)).trans rfl
          clear hb3 hBy
          by_cases hln : (len : Int) = Z
          · have n1 : ((len : Int) != Z) = false := by simpa using hln
            have n2 : decide ((len : Int) = Z) = true := decide_eq_true hln
            have HLn : Hid ((len : Int) = Z) := hln
            clear hln
            have hRu := hRu0 w3
            go_wp2_with fail
            refine hRu.mono ?_
            rintro e w4 ⟨rfl, hb4⟩
            have HB4 : Hid (Below w2.heap.size w2 w4) := HB3.out.trans (hb4.mono HB3.out.size)
            clear hb4 hRu
            cases R1
            · have HQ : Hid (BB = true) := HI1.out rfl
              go_wp2_with fail
              go_meet
              exact ⟨by rw [HQ.out], HB4.out⟩
            · have hBt := hBt0 w4
              go_wp2_with fail
              refine hBt.mono ?_
              rintro e w5 ⟨rfl, rfl⟩
              cases R2
              · have HQ : Hid (BB = true) := HI2.out rfl
                go_wp2_with fail
                go_meet
                exact ⟨by rw [HQ.out], HB4.out⟩
              · have HQ : Hid (BB = false) := by first | exact HQF.out HLn.out rfl rfl | exact HQF.out HLn.out trivial rfl | exact HQF.out HLn.out trivial trivial | exact HQF.out HLn.out trivial
                go_wp2_with fail
                go_meet
                exact ⟨by rw [HQ.out], HB4.out⟩
          · have n1 : ((len : Int) != Z) = true := by simpa using hln
            have n2 : decide ((len : Int) = Z) = false := decide_eq_false hln
            have HQ : Hid (BB = true) := HI3.out hln
            clear hln
            go_wp2_with fail
            go_meet
            exact ⟨by rw [HQ.out], HB3.out⟩
    case rest =>
      obtain ⟨rfl, HW⟩ := hcut
      obtain ⟨W6, rfl⟩ : ∃ W, W = wc := ⟨_, rfl⟩
      have k6 : ∀ g o, w2.heap[g]? = some o → W6.heap[g]? = some o := fun g o h => (HW.out.block g (Array.getElem?_eq_some_iff.1 h).1).trans h
      have hpo := own_at H2.out.1 (fun y hy => HW.out.block y (World.ownsRow.lt H2.out.1 y hy).2)
      have H6 : Hid (Below w.heap.size w W6 ∧ W6.heap[b]? = some (.cells #[.int .i64 k.org, .int .i64 k.num] 23) ∧ W6.heap[b + 1]? = some (.cells (pclC k) 25) ∧ W6.heap[b + 2]? = some (.cells #[.int .i64 ret, .int .i64 cyc] 28) ∧ W6.heap[b + 3]? = some mvZ ∧ W6.ownsRow V4.heap.size 56 5 (.slice pa L.length pc) L.length (L.flatMap pcL)) := ⟨H3.out.1.trans (HW.out.mono H3.out.1.size), k6 _ _ H3.out.2.1, k6 _ _ H3.out.2.2.1, k6 _ _ H3.out.2.2.2.1, k6 _ _ H3.out.2.2.2.2, hpo⟩
      have HVz : Hid (V4.heap.size ≤ W6.heap.size) := Nat.le_trans H2.out.2.size HW.out.size
      clear HW k6 hpo p0 p1 p2 p3 p4 q0 q1 H2 H3 hBy hRu0 hBt0 HI1 HI2 HI3 HI4 HI5 HCo
      cases BB
      · have HK : Hid (OpK k zs.length ret cyc base again) := HOp.out rfl
        clear HOp HOn
        obtain ⟨p0, p1, p2, p3, p4, _⟩ := box5 H6.out.2.2.1
        obtain ⟨ln, hln⟩ : ∃ n, L.length = n := ⟨_, rfl⟩
        have HLn : Hid (L.length = ln) := hln
        rw [hln]
        clear hln
        go_upto_if 58 with fail
        go_cut [15] from 58 to 65 (fun q wx => ∃ pa' pn pc', q = .slice pa' pn pc' ∧ Hid (∃ P, OpL k base again P ∧ wx.ownsRow V4.heap.size 56 5 (.slice pa' pn pc') pn (P.flatMap pcL) ∧ P.length = pn ∧ pn ≤ 262144 ∧ Below W6.heap.size W6 wx))
        case first =>
          cases again
          · have HQ : Hid (∃ P, OpL k base false P ∧ W6.ownsRow V4.heap.size 56 5 (.slice pa ln pc) ln (P.flatMap pcL) ∧ P.length = ln ∧ ln ≤ 262144 ∧ Below W6.heap.size W6 W6) := ⟨L, by unfold OpL; rw [if_neg (by simp)]; exact HE0.out.2.2, by have q := H6.out.2.2.2.2.2; rw [HLn.out] at q; exact q, HLn.out, by have := HLl.out; have := HLn.out; omega, Below.refl _ _⟩
            go_wp2_with fail
            go_meet
            exact ⟨pa, ln, pc, rfl, HQ.out⟩
          · obtain ⟨C1, hC1⟩ : ∃ x, base + 1 = x := ⟨_, rfl⟩
            have hw1 : IntKind.i64.wrap (base + 1) = C1 := by rw [← hC1, IntKind.wrap_i64]; have := HE0.out.2.1; omega
            have HC1 : Hid (base + 1 = C1) := hC1
            have hE := eor_any (w := W6) L (lo := V4.heap.size) (pa := pa) (pn := ln) (pc := pc) (by unfold POwn; exact H6.out.2.2.2.2.2 |> fun q => by rw [HLn.out] at q ⊢; exact q) HLn.out (by have := HLl.out; have := HLn.out; omega) k.red C1 (by have q := red_end HK.out.ok HK.out.hb' HK.out.fst (HK.out.ar rfl); rw [HE0.out.2.2]; exact q)
            clear hC1
            go_upto_region 10 with (go_at_call 14; refine hE.mono ?_; rintro e U ⟨⟨p, hp, hto, rfl⟩, hU⟩; have HU : Hid (p ∈ L ∧ p.to = k.red ∧ Below W6.heap.size W6 U) := ⟨hp, hto, hU⟩; clear hp hto hU hE)
            go_meet
            have hbU : Below U.heap.size U (U.alloc (.cells #[.int .i64 p.typ, .int .i64 p.frm, .int .i64 p.to, .int .i64 C1, .int .i64 p.rep] 56)) := (Below.refl _ _).alloc (Nat.le_refl _) _
            refine ⟨_, 1, 1, rfl, [⟨p.typ, p.frm, p.to, C1, p.rep⟩], ?_, ?_, rfl, by omega, HU.out.2.2.trans (hbU.mono HU.out.2.2.size)⟩
            · unfold OpL
              rw [if_pos rfl]
              exact ⟨p, by rw [← HE0.out.2.2]; exact HU.out.1, HU.out.2.1, by rw [HC1.out]⟩
            · exact ⟨rfl, .inr ⟨U.heap.size, 1, _, rfl, Nat.le_trans HVz.out HU.out.2.2.size, heap_alloc_new' U _, Nat.le_refl _, by unfold maxLen; omega, rfl, rfl⟩⟩
        case rest =>
          obtain ⟨pa', pn, pc', rfl, HQ⟩ := hcut
          obtain ⟨W7, rfl⟩ : ∃ W, W = wc := ⟨_, rfl⟩
          obtain ⟨P, hPL, hrow, hPn, hPb, hB7⟩ := HQ.out
          have hPne := opl_ne HK.out hPL
          have hpn : 0 < pn := by rw [← hPn]; exact List.length_pos_iff.mpr hPne
          obtain ⟨M, hM⟩ : ∃ M, pn - 1 = M := ⟨_, rfl⟩
          obtain ⟨last, hlast⟩ : ∃ x, P[M]? = some x := ⟨P[M]'(by omega), List.getElem?_eq_getElem _⟩
          obtain ⟨pg, cp, epa, _, _⟩ := World.ownsRow.form hrow hpn
          simp only [Value.slice.injEq] at epa
          obtain ⟨rfl, -, rfl⟩ := epa
          have hc5 : ∀ j, j < 5 → W7.cell? ⟨pg, M * 5 + j, none⟩ = (pcL last)[j]? := fun j hj => row_cell (f := pcL) (z := 5) (fun _ => rfl) hrow hPn hlast hj
          obtain ⟨R, hR⟩ : ∃ R : Nat, k.red = (R : Int) := Int.eq_ofNat_of_zero_le HK.out.ok.red.1
          have hRl : R ≤ len := by
            have h1 := HK.out.ln
            rw [HP.out.2.1] at h1
            have := HK.out.ok.red
            split at h1 <;> omega
          obtain ⟨G, off, hga⟩ : ∃ G off, a = some ⟨G, off, none⟩ := by
            rcases HP.out.2.2.2.1 with h0 | ⟨G, off, ha, _⟩
            · exfalso
              have h1 := HK.out.ln
              have h2 := HP.out.2.1
              have := HK.out.ok.red
              have := HK.out.ok.size
              have h3 := HK.out.ar
              rw [h0] at h1
              split at h1
              · have := h3 (by assumption); simp at h1; omega
              · simp at h1; omega
            · exact ⟨G, off, ha⟩
          subst hga
          have b7 : ∀ g o, W6.heap[g]? = some o → W7.heap[g]? = some o := fun g o h => (hB7.block g (Array.getElem?_eq_some_iff.1 h).1).trans h
          have H7 : Hid (Below w.heap.size w W7 ∧ W7.heap[b]? = some (.cells #[.int .i64 k.org, .int .i64 k.num] 23) ∧ W7.heap[b + 1]? = some (.cells (pclC k) 25) ∧ W7.heap[b + 2]? = some (.cells #[.int .i64 ret, .int .i64 cyc] 28) ∧ W7.heap[b + 3]? = some mvZ ∧ W7.ownsRow V4.heap.size 56 5 (.slice (some ⟨pg, 0, none⟩) pn pc') pn (P.flatMap pcL)) := ⟨H6.out.1.trans (hB7.mono H6.out.1.size), b7 _ _ H6.out.2.1, b7 _ _ H6.out.2.2.1, b7 _ _ H6.out.2.2.2.1, b7 _ _ H6.out.2.2.2.2.1, hrow⟩
          have HPl : Hid (OpL k base again P ∧ P.length = pn ∧ pn ≤ 262144 ∧ P[M]? = some last ∧ pn - 1 = M ∧ k.red = (R : Int) ∧ R ≤ len ∧ V4.heap.size ≤ W7.heap.size) := ⟨hPL, hPn, hPb, hlast, hM, hR, hRl, Nat.le_trans HVz.out hB7.size⟩
          have hw1 : IntKind.i64.wrap ((pn : Int) - 1) = (M : Int) := by rw [IntKind.wrap_i64]; omega
          have hM0 : 0 ≤ (M : Int) := by omega
          have hM1 : (M : Int) < (pn : Int) := by omega
          have hR0 : (0 : Int) ≤ (R : Int) := by omega
          have hR1 : (R : Int) ≤ (cap : Int) := by have := HP.out.2.2.1; omega
          have HSg : Hid (∀ U, Below W7.heap.size W7 U → U.cell? ⟨b, 0, none⟩ = some (.int .i64 k.org) ∧ U.cell? ⟨b, 1, none⟩ = some (.int .i64 k.num) ∧ U.cell? ⟨b + 1, 0, none⟩ = some (.int .i64 k.srv) ∧ U.cell? ⟨b + 1, 1, none⟩ = some (.int .i64 k.size) ∧ U.cell? ⟨b + 1, 2, none⟩ = some (.int .i64 R) ∧ U.cell? ⟨b + 1, 3, none⟩ = some (.int .i64 k.mtu) ∧ U.cell? ⟨b + 1, 4, none⟩ = some (.int .i64 k.every) ∧ U.cell? ⟨b + 2, 0, none⟩ = some (.int .i64 ret) ∧ U.cell? ⟨b + 2, 1, none⟩ = some (.int .i64 cyc) ∧ U.cell? ⟨pg, M * 5, none⟩ = some (.int .i64 last.typ) ∧ U.cell? ⟨pg, M * 5 + 1, none⟩ = some (.int .i64 last.frm) ∧ U.cell? ⟨pg, M * 5 + 2, none⟩ = some (.int .i64 last.to) ∧ U.cell? ⟨pg, M * 5 + 3, none⟩ = some (.int .i64 last.chk) ∧ U.cell? ⟨pg, M * 5 + 4, none⟩ = some (.int .i64 last.rep)) := fun U hU => by
            have u7 : ∀ g o, W7.heap[g]? = some o → U.heap[g]? = some o := fun g o h => (hU.block g (Array.getElem?_eq_some_iff.1 h).1).trans h
            obtain ⟨p0, p1, p2, p3, p4, _⟩ := box5 (u7 _ _ H7.out.2.2.1)
            rw [hR] at p2
            have hcU : ∀ j, j < 5 → U.cell? ⟨pg, M * 5 + j, none⟩ = (pcL last)[j]? := fun j hj => by
              have q := hc5 j hj
              rw [← q]
              exact World.cell?_of_block (a := ⟨pg, M * 5 + j, none⟩) (hU.block pg (World.ownsRow.lt H7.out.2.2.2.2.2 pg rfl).2)
            exact ⟨(cell_of_row _ _ _ _ _ _ (u7 _ _ H7.out.2.1)).trans rfl, (cell_of_row _ _ _ _ _ _ (u7 _ _ H7.out.2.1)).trans rfl, p0, p1, p2, p3, p4, (cell_of_row _ _ _ _ _ _ (u7 _ _ H7.out.2.2.2.1)).trans rfl, (cell_of_row _ _ _ _ _ _ (u7 _ _ H7.out.2.2.2.1)).trans rfl, hcU 0 (by omega), hcU 1 (by omega), hcU 2 (by omega), hcU 3 (by omega), hcU 4 (by omega)⟩
          have HLi : Hid (∀ U, Below W7.heap.size W7 U → ∀ j u, ((zs.take R).map (Value.int .u8))[j]? = some u → U.cell? ((⟨G, off, none⟩ : Addr).add j) = some u) := fun U hU j u hj => by
            have hz := HP.out.2.2.2.1.below (H7.out.1.trans (hU.mono H7.out.1.size))
            rw [List.getElem?_map] at hj
            obtain ⟨x, hx, rfl⟩ := Option.map_eq_some_iff.mp hj
            rw [List.getElem?_take] at hx
            split at hx
            · rcases hz with h0 | ⟨G', off', e, h⟩
              · rw [h0] at hx; simp at hx
              · cases e
                have hlt := (List.getElem?_eq_some_iff.mp hx).1
                have q := h j hlt
                rw [List.getD_eq_getElem?_getD, hx] at q
                have adn : (⟨G, off, none⟩ : Addr).add j = ⟨G, off + j, none⟩ := by unfold Addr.add; split <;> simp_all
                rw [adn]
                exact q
            · cases hx
          have HBz : Hid (∀ U, Below W7.heap.size W7 U → W7.heap.size ≤ U.heap.size) := fun U hU => hU.size
          have HBd : Hid (Below W7.heap.size W7 W7.drew) := ⟨rfl, rfl, rfl, Nat.le_refl _, fun _ _ => rfl⟩
          have m1 : ∀ V : World, (Instr.makeMap 60 none).run Tryd.prog V = .ok (.map (some V.heap.size)) (V.alloc (.map #[] 0)) := fun V => by first | rfl | kernel_rfl | simp [Instr.makeMap, run_underlying Tryd.underlying60]
          have m2 : ∀ V : World, (Instr.makeMap 61 none).run Tryd.prog V = .ok (.map (some V.heap.size)) (V.alloc (.map #[] 0)) := fun V => by first | rfl | kernel_rfl | simp [Instr.makeMap, run_underlying Tryd.underlying61]
          have HS0 := HSg.out W7 (Below.refl _ _)
          have hrl : ((zs.take R).map (Value.int .u8)).length = R * 1 := by rw [List.length_map, List.length_take]; have := HP.out.2.1; omega
          have hone : ∀ u ∈ (zs.take R).map (Value.int .u8), u.oneCell' = true := by
            intro u hu
            obtain ⟨x, _, rfl⟩ := List.mem_map.mp hu
            rfl
          have hm1 : 0 + R ≤ maxLen := by unfold maxLen; omega
          have hm2 : (0 + R) * 1 ≤ 140737488355328 := by omega
          clear HQ hPL hrow hPn hPb hB7 hPne hpn hM hlast hR hRl hc5 b7 H6 p0 p1 p2 p3 p4 HVz
          go_upto_region 10 with fail
          go_cut [17] from 66 to 86 (fun q wx => ∃ e, q = .pointer (some ⟨e, 0, none⟩) ∧ Hid (∃ m rm bv, Xm wx e m rm 0 ⟨k, bv, ret, cyc, last, again, base, .slice none 0 0, 0, false⟩ [] ∧ (∀ g, XF e m [] g → W7.heap.size ≤ g) ∧ wx.ownsRow W7.heap.size 5 1 bv R ((zs.take R).map (Value.int .u8)) ∧ Below W7.heap.size W7 wx))
          case first =>
            go_region_held3 (fun V => V.cell? ⟨b, 0, none⟩ = some (.int .i64 k.org) ∧ V.cell? ⟨b, 1, none⟩ = some (.int .i64 k.num) ∧ V.cell? ⟨b + 1, 0, none⟩ = some (.int .i64 k.srv) ∧ V.cell? ⟨b + 1, 1, none⟩ = some (.int .i64 k.size) ∧ V.cell? ⟨b + 1, 2, none⟩ = some (.int .i64 R) ∧ V.cell? ⟨b + 1, 3, none⟩ = some (.int .i64 k.mtu) ∧ V.cell? ⟨b + 1, 4, none⟩ = some (.int .i64 k.every) ∧ V.cell? ⟨b + 2, 0, none⟩ = some (.int .i64 ret) ∧ V.cell? ⟨b + 2, 1, none⟩ = some (.int .i64 cyc) ∧ V.cell? ⟨pg, M * 5, none⟩ = some (.int .i64 last.typ) ∧ V.cell? ⟨pg, M * 5 + 1, none⟩ = some (.int .i64 last.frm) ∧ V.cell? ⟨pg, M * 5 + 2, none⟩ = some (.int .i64 last.to) ∧ V.cell? ⟨pg, M * 5 + 3, none⟩ = some (.int .i64 last.chk) ∧ V.cell? ⟨pg, M * 5 + 4, none⟩ = some (.int .i64 last.rep))
              (first | exact HS0 | (refine HSg.out _ ?_; repeat (first | exact HAY.out | exact Below.refl _ _ | refine Below.dr ?_ | refine Below.al ?_ _)))
              (first
                | (refine step_append_at rfl (.const (.slice none 0 0)) (.tmp 71) 26 rfl W7.heap.size 5 i0 (.int .u8 0) 1 1 Tryd.underlying26 hi hz0 hz1 hz2 rfl (by decide) (.slice none 0 0) 0 [] rfl (World.ownsRow_nil _ _ _ _) ⟨G, off, none⟩ R cap ((zs.take R).map (Value.int .u8)) (by simp [Act.eval]) hrl (HLi.out _ (by repeat (first | exact Below.refl _ _ | refine Below.dr ?_ | refine Below.al ?_ _))) hone hm1 hm2 (HBz.out _ (by repeat (first | exact Below.refl _ _ | refine Below.dr ?_ | refine Below.al ?_ _))) ?_
                   intro v8 w8 hown8 hgrow8 _
                   have HXY : Hid (Below _ _ w8) := (Below.refl _ _).grown hgrow8 (Nat.le_refl _) (by intro j hj; cases hj)
                   have HAY : Hid (Below W7.heap.size W7 w8) := Below.trans (by repeat (first | exact Below.refl _ _ | refine Below.dr ?_ | refine Below.al ?_ _)) (HXY.out.mono (HBz.out _ (by repeat (first | exact Below.refl _ _ | refine Below.dr ?_ | refine Below.al ?_ _))))
                   have HOw : Hid (w8.ownsRow W7.heap.size 5 1 v8 R ((zs.take R).map (Value.int .u8))) := by { rw [Nat.zero_add, List.nil_append] at hown8; exact hown8 }
                   obtain ⟨va, vc, rfl⟩ := own_sl HOw.out
                   clear hown8 hgrow8))
            all_goals
              go_wp2_with fail
              go_meet
              refine ⟨_, rfl, op_end (by simp) (by unfold xpC; rw [HPl.out.2.2.2.2.2.1]) HAY.out (by repeat (first | exact Below.refl _ _ | refine Below.al ?_ _)) HOw.out (by first | exact al_a1 _ _ _ | exact al_a2 _ _ _ | exact al_b1 HXY.out | exact heap_alloc_new' _ _ | exact al_c1 HXY.out | exact al_c2 HXY.out) (by have := HAY.out.size; omega)⟩
          case rest =>
            obtain ⟨e, rfl, HQ⟩ := hcut
            obtain ⟨W9, rfl⟩ : ∃ W, W = wc := ⟨_, rfl⟩
            obtain ⟨m, rm, bv, hX, hF, hbr, hB9⟩ := HQ.out
            have b9 : ∀ g o, W7.heap[g]? = some o → W9.heap[g]? = some o := fun g o h => (hB9.block g (Array.getElem?_eq_some_iff.1 h).1).trans h
            have hrow9 := own_at H7.out.2.2.2.2.2 (fun y hy => hB9.block y (World.ownsRow.lt H7.out.2.2.2.2.2 y hy).2)
            have H9 : Hid (Xm W9 e m rm 0 ⟨k, bv, ret, cyc, last, again, base, .slice none 0 0, 0, false⟩ [] ∧ (∀ g, XF e m [] g → W7.heap.size ≤ g) ∧ W9.ownsRow W7.heap.size 5 1 bv R ((zs.take R).map (Value.int .u8)) ∧ Below W7.heap.size W7 W9 ∧ W9.heap[b + 3]? = some mvZ ∧ W9.ownsRow V4.heap.size 56 5 (.slice (some ⟨pg, 0, none⟩) pn pc') pn (P.flatMap pcL)) := ⟨hX, hF, hbr, hB9, b9 _ _ H7.out.2.2.2.2.1, hrow9⟩
            have q0 : W9.cell? ⟨b, 0, none⟩ = some (.int .i64 k.org) := (cell_of_row _ _ _ _ _ _ (b9 _ _ H7.out.2.1)).trans rfl
            have q1 : W9.cell? ⟨b, 1, none⟩ = some (.int .i64 k.num) := (cell_of_row _ _ _ _ _ _ (b9 _ _ H7.out.2.1)).trans rfl
            obtain ⟨p0, p1, p2, p3, p4, _⟩ := box5 (b9 _ _ H7.out.2.2.1)
            have hF9 := hF
            have hPut := put_any (w := W9) (O := []) hX k (a := some ⟨G, off, none⟩) (len := len) (cap := cap) zs HP.out.2.1 HP.out.2.2.1 HP.out.2.2.2.2 (fun V hV => by
              have hb : Below W7.heap.size W7 V := ⟨hV.os.trans hB9.os, hV.tape.trans hB9.tape, hV.output.trans hB9.output, Nat.le_trans hB9.size hV.size, fun g hg => (hV.block g (Nat.lt_of_lt_of_le hg hB9.size) (fun q => by have := hF9 g q; omega)).trans (hB9.block g hg)⟩
              exact HP.out.2.2.2.1.below (H7.out.1.trans (hb.mono H7.out.1.size))) (lo := V4.heap.size) P (by unfold POwn; rw [HPl.out.2.1]; exact hrow9) HPl.out.2.1 HPl.out.2.2.1 (opl_frs HK.out HPl.out.1) (fun g hg q => by
              have h1 := hF9 g q
              have h2 := (World.ownsRow.lt H7.out.2.2.2.2.2 g (by simpa [Value.ownBlock] using hg)).2
              omega)
            have H79 : Hid (Below w.heap.size w W7) := H7.out.1
            clear HQ hX hF hbr hB9 b9 hrow9 hF9 HSg HLi HBz HBd m1 m2 HS0 hw1 hM0 hM1 hR0 hR1 hrl hone hm1 hm2 H7
            go_wp2_with (go_at_call 15; refine hPut.mono ?_; rintro e' w10 ⟨sv, rfl, hPI⟩
                         have H10 : Hid (PtI W9 e m rm ⟨k, bv, ret, cyc, last, again, base, .slice none 0 0, 0, false⟩ [] k zs P P.length sv w10) := hPI
                         obtain ⟨Y, N, c', hY, hS, hXN, hN, hNn, hKl⟩ := hPI
                         obtain ⟨sva, svc, rfl⟩ := own_sl hS.row
                         obtain ⟨yn, hyn⟩ : ∃ n, Y.length = n := ⟨_, rfl⟩
                         rw [hyn] at H10 ⊢
                         have hb3 : w10.heap[b + 3]? = some mvZ := (hKl.block _ (Array.getElem?_eq_some_iff.1 H9.out.2.2.2.2.1).1 (fun q => by { have h1 := H9.out.2.1 _ q; have h2 := HPl.out.2.2.2.2.2.2.2; have h3 := HB.out.2.2.2.2.2.2; omega })).trans H9.out.2.2.2.2.1
                         have hst : Storable Tryd.prog 37 w10 (.pointer (some ⟨b + 3, 0, none⟩)) (.agg #[.slice none 0 0, .slice sva yn svc, .slice none 0 0, .bool false, .bool false, .bool false, .int .i64 0]) := ⟨b + 3, _, _, _, rfl, rfl, hb3, rfl, size_mov, by simp [Value.oneCell']⟩
                         have H11 : Hid (w10.heap[b + 3]? = some mvZ) := hb3
                         clear hPut hb3 hY hS hXN hN hNn hKl hyn)
            have HZ : Hid ((w10.setRow (b + 3) #[.slice none 0 0, .slice sva yn svc, .slice none 0 0, .bool false, .bool false, .bool false, .int .i64 0]).heap[b + 3]? = some (mvO (.slice none 0 0) (.slice sva yn svc) (.slice none 0 0) false false false 0)) := setRow_heap _ _ _ _ _ _ H11.out
            have hlv := fun j => cell_of_row _ (b + 3) j _ _ _ HZ.out
            refine bodyPost_ret (v := .tuple #[.pointer (some ⟨e, 0, none⟩), .agg (mvC (.slice none 0 0) (.slice sva yn svc) (.slice none 0 0) false false false 0), .int .i64 0]) (by simp [results, Tryd.results5, go_sem, mvC, hlv]) rfl ?_
            have hgr := grown_row w10 (b + 3) #[.slice none 0 0, .slice sva yn svc, .slice none 0 0, .bool false, .bool false, .bool false, .int .i64 0]
            generalize w10.setRow (b + 3) #[.slice none 0 0, .slice sva yn svc, .slice none 0 0, .bool false, .bool false, .bool false, .int .i64 0] = W11 at *
            have kg : Kl (fun g => g = b + 3) w10 W11 := ⟨hgr.os, hgr.tape, hgr.output, hgr.size, fun y hl hn => hgr.block y hl (fun q => hn (Option.some.inj q))⟩
            obtain ⟨Y, N, c', hY, hS, hXN, hN, hNn, hKl⟩ := H10.out
            rw [List.take_length] at hY hXN hN
            have z1 := H9.out.2.1
            have z2 := HPl.out.2.2.2.2.2.2.2
            have z3 := HB.out.2.2.2.2.2
            have z4 := H9.out.2.2.2.1.size
            have hxf : ∀ g, XF e m N g → W7.heap.size ≤ g := fun g hg => by
              rcases hg with q | q | q
              · exact z1 g (.inl q)
              · exact z1 g (.inr (.inl q))
              · obtain ⟨o, ho, rfl⟩ := List.mem_map.mp q
                have := (hNn o ho).2.2
                omega
            have hbr := own_at H9.out.2.2.1 (fun y hy => hKl.block y (World.ownsRow.lt H9.out.2.2.1 y hy).2 (fun q => H9.out.1.row H9.out.2.2.1 (by decide) (by decide) hy q))
            have hb11 := own_at hbr (fun y hy => kg.block y (World.ownsRow.lt hbr y hy).2 (fun q => apart_of hbr hy H11.out (by decide) q))
            have hS11 := hS.kl kg H11.out (by decide) (by decide)
            have hBw : Below w.heap.size w W7 := H79.out
            have hB9 := H9.out.2.2.2.1
            have hRr : k.red.toNat = R := by rw [HPl.out.2.2.2.2.2.1]; rfl
            have hRl : (zs.take R).length = R := by rw [List.length_take, HP.out.2.1]; have := HPl.out.2.2.2.2.2.2.1; omega
            refine .inr ⟨HK.out, e, m, rm, c', P, last, N, Y, bv, .slice sva yn svc, rfl, HPl.out.1, ?_, ?_, fun g hg => ?_, hN, fun o ho => ⟨(hNn o ho).1, (hNn o ho).2.1⟩, ?_, hY, ?_, ?_⟩
            · rw [List.getLast?_eq_getElem?, HPl.out.2.1, HPl.out.2.2.2.2.1]
              exact HPl.out.2.2.2.1
            · exact hXN.keep kg (fun g hg q => by have := hxf g hg; omega)
            · have := hxf g hg
              have := hBw.size
              omega
            · exact ⟨own_low hS11.row (by have := hBw.size; omega), fun y hy => own_low (hS11.el y hy) (by have := hBw.size; omega)⟩
            · rw [hRr, hRl]
              exact own_low hb11 hBw.size
            · exact ⟨kg.os.trans (hKl.os.trans (hB9.os.trans hBw.os)), kg.tape.trans (hKl.tape.trans (hB9.tape.trans hBw.tape)), kg.output.trans (hKl.output.trans (hB9.output.trans hBw.output)), Nat.le_trans hBw.size (Nat.le_trans hB9.size (Nat.le_trans hKl.size kg.size)), fun g hg => by
                have s1 := hBw.size
                have s2 := hKl.size
                exact (kg.block g (by omega) (by omega)).trans ((hKl.block g (by omega) (fun q => by have := z1 g q; omega)).trans ((hB9.block g (by omega)).trans (hBw.block g hg)))⟩
      · have HNo : Hid (¬ OpK k zs.length ret cyc base again) := HOn.out rfl
        clear HOn HOp
        have hst : Storable Tryd.prog 37 W6 (.pointer (some ⟨b + 3, 0, none⟩)) (.agg #[.slice none 0 0, .slice none 0 0, .slice none 0 0, .bool false, .bool false, .bool false, .int .i64 0]) := ⟨b + 3, _, _, _, rfl, rfl, H6.out.2.2.2.2.1, rfl, size_mov, by simp [Value.oneCell']⟩
        go_wp2
        have HZ : Hid ((W6.setRow (b + 3) #[.slice none 0 0, .slice none 0 0, .slice none 0 0, .bool false, .bool false, .bool false, .int .i64 0]).heap[b + 3]? = some mvZ) := setRow_heap _ _ _ _ _ _ H6.out.2.2.2.2.1
        have hlv := fun j => cell_of_row _ (b + 3) j _ _ _ HZ.out
        refine bodyPost_ret (v := .tuple #[.pointer none, .agg (mvC (.slice none 0 0) (.slice none 0 0) (.slice none 0 0) false false false 0), .int .i64 1]) (by simp [results, Tryd.results5, go_sem, mvC, hlv]) rfl ?_
        exact HErr.out W6 1 H6.out.1 H6.out.2.2.2.2.1 (by decide) HNo.out
  · have hst : Storable Tryd.prog 37 w2 (.pointer (some ⟨b + 3, 0, none⟩)) (.agg #[.slice none 0 0, .slice none 0 0, .slice none 0 0, .bool false, .bool false, .bool false, .int .i64 0]) := ⟨b + 3, _, _, _, rfl, rfl, H3.out.2.2.2.2, rfl, size_mov, by simp [Value.oneCell']⟩
    have HEr : Hid (er ≠ 0) := her
    have e1 : (er != 0) = true := by simpa using her
    have e2 : decide (er = 0) = false := decide_eq_false her
    clear her
    go_wp2
    have HZ : Hid ((w2.setRow (b + 3) #[.slice none 0 0, .slice none 0 0, .slice none 0 0, .bool false, .bool false, .bool false, .int .i64 0]).heap[b + 3]? = some mvZ) := setRow_heap _ _ _ _ _ _ H3.out.2.2.2.2
    have hlv := fun j => cell_of_row _ (b + 3) j _ _ _ HZ.out
    refine bodyPost_ret (v := .tuple #[.pointer none, .agg (mvC (.slice none 0 0) (.slice none 0 0) (.slice none 0 0) false false false 0), .int .i64 er]) (by simp [results, Tryd.results5, go_sem, mvC, hlv]) rfl ?_
    exact HErr.out w2 er H3.out.1 H3.out.2.2.2.2 HEr.out (fun q => HEr.out (by
      rw [← HCt.out.2]
      unfold cut
      have hb := q.hb
      rw [if_neg (by rw [q.ok.ses]; simp), if_neg (by rw [q.ok.pcl]; simp), if_neg (by omega)]))
end Go.Proofs.YtcfodcioeefbeaaDoor.X
