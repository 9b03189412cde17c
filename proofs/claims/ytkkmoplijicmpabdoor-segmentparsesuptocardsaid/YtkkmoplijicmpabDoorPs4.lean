import Derived.Test.YtkkmoplijicmpabDoorPs1
import Derived.Test.YtkkmoplijicmpabDoorCards
import Derived.Test.YtkkmoplijicmpabDoorTie
import Derived.Test.YtkkmoplijicmpabDoorGiven
import Derived.JoinedCond
import Derived.Deep.DeepHandedRow
import Derived.Lib.LaidTab
namespace Go.Proofs.YtkkmoplijicmpabDoor
open Go.RowKit
set_option linter.unusedVariables false
set_option linter.unusedSimpArgs false
attribute [local go_sem ↓] wp_storeQ
attribute [local go_sem] pBlkQ_ptr pAggQ_agg

set_option maxRecDepth 100000 in
set_option maxHeartbeats 64000000 in
theorem parses_walk (ab ao : Option Addr) (nb cb no co : Nat) (zb zo : List Int) (w : World) (hT : Tab w) (hnb : zb.length = nb) (hno : zo.length = no) (hb0 : BIn w (.slice ab nb cb) zb) (ho0 : BIn w (.slice ao no co) zo) :
    Calls Tryd.prog 4 #[.slice ab nb cb, .slice ao no co] w fun e W' => e = .returned (.bool true) ∧ Below w.heap.size w W' := by
  have h00 : 0 < w.heap.size := World.block_lt_of_cell? w ⟨0, 0, none⟩ (hT 0 (by omega))
  have hA := awake_any w hT
  obtain ⟨⟨eb, sb⟩, hzb⟩ : ∃ q, prs zb = q := ⟨_, rfl⟩
  obtain ⟨⟨eo, so⟩, hzo⟩ : ∃ q, prs zo = q := ⟨_, rfl⟩
  have HT : Hid (∀ V, Below w.heap.size w V → Tab V) := fun V hV => hT.below hV h00
  have HBb : Hid (∀ V, Below w.heap.size w V → BIn V (.slice ab nb cb) zb) := fun V hV => hb0.below hV
  have HBo : Hid (∀ V, Below w.heap.size w V → BIn V (.slice ao no co) zo) := fun V hV => ho0.below hV
  have HZ : Hid (prs zb = (eb, sb) ∧ prs zo = (eo, so)) := ⟨hzb, hzo⟩
  have HLn : Hid (zb.length = nb ∧ Bytey zb ∧ zb.length ≤ 1048576) := ⟨hnb, hb0.bytes, hb0.small⟩
  have hnbs : nb ≤ 1048576 := by rw [← hnb]; exact hb0.small
  clear hT hb0 ho0 hzb hzo hnb hno
  go_enter Tryd.func4, Tryd.ntmps4
  go_wp2_with fail
  refine hA.mono ?_
  rintro e w1 ⟨rfl, hb⟩
  have L1 : Hid (Below w.heap.size w w1) := hb
  clear hb hA
  go_wp2_with fail
  refine (ref_parse (HBb.out w1 L1.out) HZ.out.1).mono ?_
  rintro e w2o ⟨qb, rfl, hs, hb⟩
  obtain ⟨hst, hbn, hsz, hvr⟩ := vr_new hs hb
  have L2 : Hid (Below w.heap.size w ((w2o.alloc zQ).setRow w2o.heap.size (sC sb qb.hv qb.tv qb.dv qb.cv))) := L1.out.trans (hbn.mono L1.out.size)
  have Bw2 : Hid (Below w1.heap.size w1 ((w2o.alloc zQ).setRow w2o.heap.size (sC sb qb.hv qb.tv qb.dv qb.cv))) := hbn
  have Nw2 : Hid (∀ gd, gd < w1.heap.size ∨ w2o.heap.size + 1 ≤ gd → Vr gd ((w2o.alloc zQ).setRow w2o.heap.size (sC sb qb.hv qb.tv qb.dv qb.cv)) w2o.heap.size w1.heap.size w2o.heap.size sb qb) := hvr
  have Zw2 : Hid (((w2o.alloc zQ).setRow w2o.heap.size (sC sb qb.hv qb.tv qb.dv qb.cv)).heap.size = w2o.heap.size + 1 ∧ w1.heap.size ≤ w2o.heap.size) := ⟨hsz, hb.size⟩
  clear hs hb hbn hsz hvr
  go_upto_region 3 with fail
  obtain ⟨w2, hWn⟩ : ∃ x, (w2o.alloc zQ).setRow w2o.heap.size (sC sb qb.hv qb.tv qb.dv qb.cv) = x := ⟨_, rfl⟩
  rw [hWn] at L2 Bw2 Nw2 Zw2 ⊢
  clear hWn hst
  go_wp2_with fail
  refine (ref_parse (HBo.out w2 L2.out) HZ.out.2).mono ?_
  rintro e w3o ⟨qo, rfl, hs, hb⟩
  obtain ⟨hst, hbn, hsz, hvr⟩ := vr_new hs hb
  have L3 : Hid (Below w.heap.size w ((w3o.alloc zQ).setRow w3o.heap.size (sC so qo.hv qo.tv qo.dv qo.cv))) := L2.out.trans (hbn.mono L2.out.size)
  have Bw3 : Hid (Below w2.heap.size w2 ((w3o.alloc zQ).setRow w3o.heap.size (sC so qo.hv qo.tv qo.dv qo.cv))) := hbn
  have Nw3 : Hid (∀ gd, gd < w2.heap.size ∨ w3o.heap.size + 1 ≤ gd → Vr gd ((w3o.alloc zQ).setRow w3o.heap.size (sC so qo.hv qo.tv qo.dv qo.cv)) w3o.heap.size w2.heap.size w3o.heap.size so qo) := hvr
  have Zw3 : Hid (((w3o.alloc zQ).setRow w3o.heap.size (sC so qo.hv qo.tv qo.dv qo.cv)).heap.size = w3o.heap.size + 1 ∧ w2.heap.size ≤ w3o.heap.size) := ⟨hsz, hb.size⟩
  clear hs hb hbn hsz hvr
  go_upto_region 4 with fail
  obtain ⟨w3, hWn⟩ : ∃ x, (w3o.alloc zQ).setRow w3o.heap.size (sC so qo.hv qo.tv qo.dv qo.cv) = x := ⟨_, rfl⟩
  rw [hWn] at L3 Bw3 Nw3 Zw3 ⊢
  clear hWn hst
  go_wp2_with fail
  refine (lentBytes_any (HBb.out w3 L3.out)).mono ?_
  rintro e w4 ⟨he, hk, hb⟩
  rw [HLn.out.1] at he
  subst he
  obtain ⟨gd, hgd⟩ : ∃ g, g = w3.heap.size := ⟨_, rfl⟩
  rw [← hgd] at hk ⊢
  have HGd : Hid (gd = w3.heap.size ∧ w.heap.size ≤ gd) := ⟨hgd, by rw [hgd]; exact L3.out.size⟩
  have L4 : Hid (Below w.heap.size w w4) := L3.out.trans (hb.mono L3.out.size)
  have BK4 : Hid (Blk .u8 w4 gd 5 (mk2 zb)) := hk
  have VB4 : Hid (Vr gd w4 w2o.heap.size w1.heap.size w2o.heap.size sb qb) := ((Nw2.out gd (.inr (by have := Zw2.out; have := Zw3.out; omega))).keep (Oz.of Bw3.out)).keep (Oz.of hb)
  have VO4 : Hid (Vr gd w4 w3o.heap.size w2.heap.size w3o.heap.size so qo) := (Nw3.out gd (.inr (by have := Zw3.out; omega))).keep (Oz.of hb)
  have S4 : Hid (gd < w4.heap.size) := hk.lt
  clear hb hk hgd Nw2 Nw3 Zw2 Zw3 Bw2 Bw3
  have HBu2 : Hid (∀ V, Blk .u8 V gd 5 (mk2 zb) → BIn V (.slice (some ⟨gd, 0, none⟩) nb (nb + 2)) zb) := fun V h => by have := h.bin2 HLn.out.2.1 HLn.out.2.2; rw [HLn.out.1] at this; exact this
  go_wp2_with fail
  refine (prog_parse (HBu2.out w4 BK4.out) (HT.out w4 L4.out) HZ.out.1).mono ?_
  rintro e w5o ⟨qs, rfl, hs, hb⟩
  obtain ⟨hst, hbn, hsz, hvr⟩ := vr_new hs hb
  have L5 : Hid (Below w.heap.size w ((w5o.alloc zQ).setRow w5o.heap.size (sC sb qs.hv qs.tv qs.dv qs.cv))) := L4.out.trans (hbn.mono L4.out.size)
  have Bw5 : Hid (Below w4.heap.size w4 ((w5o.alloc zQ).setRow w5o.heap.size (sC sb qs.hv qs.tv qs.dv qs.cv))) := hbn
  have Nw5 : Hid (∀ gd, gd < w4.heap.size ∨ w5o.heap.size + 1 ≤ gd → Vr gd ((w5o.alloc zQ).setRow w5o.heap.size (sC sb qs.hv qs.tv qs.dv qs.cv)) w5o.heap.size w4.heap.size w5o.heap.size sb qs) := hvr
  have Zw5 : Hid (((w5o.alloc zQ).setRow w5o.heap.size (sC sb qs.hv qs.tv qs.dv qs.cv)).heap.size = w5o.heap.size + 1 ∧ w4.heap.size ≤ w5o.heap.size) := ⟨hsz, hb.size⟩
  clear hs hb hbn hsz hvr
  go_upto_region 6 with fail
  obtain ⟨w5, hWn⟩ : ∃ x, (w5o.alloc zQ).setRow w5o.heap.size (sC sb qs.hv qs.tv qs.dv qs.cv) = x := ⟨_, rfl⟩
  rw [hWn] at L5 Bw5 Nw5 Zw5 ⊢
  clear hWn hst
  have VB5 : Hid (Vr gd w5 w2o.heap.size w1.heap.size w2o.heap.size sb qb) := VB4.out.keep (Oz.of Bw5.out)
  have VO5 : Hid (Vr gd w5 w3o.heap.size w2.heap.size w3o.heap.size so qo) := VO4.out.keep (Oz.of Bw5.out)
  have BK5 : Hid (Blk .u8 w5 gd 5 (mk2 zb)) := BK4.out.below Bw5.out S4.out
  have S5 : Hid (gd < w5.heap.size) := Nat.lt_of_lt_of_le S4.out Bw5.out.size
  have VS5 : Hid (Vr gd w5 w5o.heap.size w4.heap.size w5o.heap.size sb qs) := Nw5.out gd (.inl S4.out)
  clear Nw5 Bw5 VB4 VO4 BK4
  go_wp2_with fail
  refine (prog_parse (HBo.out w5 L5.out) (HT.out w5 L5.out) HZ.out.2).mono ?_
  rintro e w6o ⟨qt, rfl, hs, hb⟩
  obtain ⟨hst, hbn, hsz, hvr⟩ := vr_new hs hb
  have L6 : Hid (Below w.heap.size w ((w6o.alloc zQ).setRow w6o.heap.size (sC so qt.hv qt.tv qt.dv qt.cv))) := L5.out.trans (hbn.mono L5.out.size)
  have Bw6 : Hid (Below w5.heap.size w5 ((w6o.alloc zQ).setRow w6o.heap.size (sC so qt.hv qt.tv qt.dv qt.cv))) := hbn
  have Nw6 : Hid (∀ gd, gd < w5.heap.size ∨ w6o.heap.size + 1 ≤ gd → Vr gd ((w6o.alloc zQ).setRow w6o.heap.size (sC so qt.hv qt.tv qt.dv qt.cv)) w6o.heap.size w5.heap.size w6o.heap.size so qt) := hvr
  have Zw6 : Hid (((w6o.alloc zQ).setRow w6o.heap.size (sC so qt.hv qt.tv qt.dv qt.cv)).heap.size = w6o.heap.size + 1 ∧ w5.heap.size ≤ w6o.heap.size) := ⟨hsz, hb.size⟩
  clear hs hb hbn hsz hvr
  go_upto_region 7 with fail
  obtain ⟨w6, hWn⟩ : ∃ x, (w6o.alloc zQ).setRow w6o.heap.size (sC so qt.hv qt.tv qt.dv qt.cv) = x := ⟨_, rfl⟩
  rw [hWn] at L6 Bw6 Nw6 Zw6 ⊢
  clear hWn hst
  have VB6 : Hid (Vr gd w6 w2o.heap.size w1.heap.size w2o.heap.size sb qb) := VB5.out.keep (Oz.of Bw6.out)
  have VO6 : Hid (Vr gd w6 w3o.heap.size w2.heap.size w3o.heap.size so qo) := VO5.out.keep (Oz.of Bw6.out)
  have VS6 : Hid (Vr gd w6 w5o.heap.size w4.heap.size w5o.heap.size sb qs) := VS5.out.keep (Oz.of Bw6.out)
  have BK6 : Hid (Blk .u8 w6 gd 5 (mk2 zb)) := BK5.out.below Bw6.out S5.out
  have S6 : Hid (gd < w6.heap.size) := Nat.lt_of_lt_of_le S5.out Bw6.out.size
  have VT6 : Hid (Vr gd w6 w6o.heap.size w5.heap.size w6o.heap.size so qt) := Nw6.out gd (.inl S5.out)
  clear Nw6 Bw6 VB5 VO5 VS5 BK5
  go_wp2_with fail
  refine (prog_parse (HBu2.out w6 BK6.out) (HT.out w6 L6.out) HZ.out.1).mono ?_
  rintro e w7o ⟨qx, rfl, hs, hb⟩
  obtain ⟨hst, hbn, hsz, hvr⟩ := vr_new hs hb
  have L7 : Hid (Below w.heap.size w ((w7o.alloc zQ).setRow w7o.heap.size (sC sb qx.hv qx.tv qx.dv qx.cv))) := L6.out.trans (hbn.mono L6.out.size)
  have Bw7 : Hid (Below w6.heap.size w6 ((w7o.alloc zQ).setRow w7o.heap.size (sC sb qx.hv qx.tv qx.dv qx.cv))) := hbn
  have Nw7 : Hid (∀ gd, gd < w6.heap.size ∨ w7o.heap.size + 1 ≤ gd → Vr gd ((w7o.alloc zQ).setRow w7o.heap.size (sC sb qx.hv qx.tv qx.dv qx.cv)) w7o.heap.size w6.heap.size w7o.heap.size sb qx) := hvr
  have Zw7 : Hid (((w7o.alloc zQ).setRow w7o.heap.size (sC sb qx.hv qx.tv qx.dv qx.cv)).heap.size = w7o.heap.size + 1 ∧ w6.heap.size ≤ w7o.heap.size) := ⟨hsz, hb.size⟩
  clear hs hb hbn hsz hvr
  go_upto_region 8 with fail
  obtain ⟨w7, hWn⟩ : ∃ x, (w7o.alloc zQ).setRow w7o.heap.size (sC sb qx.hv qx.tv qx.dv qx.cv) = x := ⟨_, rfl⟩
  rw [hWn] at L7 Bw7 Nw7 Zw7 ⊢
  clear hWn hst
  have VB7 : Hid (Vr gd w7 w2o.heap.size w1.heap.size w2o.heap.size sb qb) := VB6.out.keep (Oz.of Bw7.out)
  have VO7 : Hid (Vr gd w7 w3o.heap.size w2.heap.size w3o.heap.size so qo) := VO6.out.keep (Oz.of Bw7.out)
  have VS7 : Hid (Vr gd w7 w5o.heap.size w4.heap.size w5o.heap.size sb qs) := VS6.out.keep (Oz.of Bw7.out)
  have VT7 : Hid (Vr gd w7 w6o.heap.size w5.heap.size w6o.heap.size so qt) := VT6.out.keep (Oz.of Bw7.out)
  have BK7 : Hid (Blk .u8 w7 gd 5 (mk2 zb)) := BK6.out.below Bw7.out S6.out
  have S7 : Hid (gd < w7.heap.size) := Nat.lt_of_lt_of_le S6.out Bw7.out.size
  have VX7 : Hid (Vr gd w7 w7o.heap.size w6.heap.size w7o.heap.size sb qx) := Nw7.out gd (.inl S6.out)
  clear Nw7 Bw7 VB6 VO6 VS6 VT6 BK6
  go_wp2_with fail
  have hKp : Calls Tryd.prog 18 #[(.slice (some ⟨gd, 0, none⟩) nb (nb + 2)), .slice ab nb cb] w7 fun e w' => e = .returned (.bool true) ∧ Below w7.heap.size w7 w' := by have := keptBytes_any (HBb.out w7 L7.out) BK7.out; rw [HLn.out.1] at this; exact this
  refine hKp.mono ?_
  rintro e w8 ⟨rfl, hb⟩
  clear hKp
  have VB8 : Hid (Vr gd w8 w2o.heap.size w1.heap.size w2o.heap.size sb qb) := VB7.out.keep (Oz.of hb)
  have VO8 : Hid (Vr gd w8 w3o.heap.size w2.heap.size w3o.heap.size so qo) := VO7.out.keep (Oz.of hb)
  have VS8 : Hid (Vr gd w8 w5o.heap.size w4.heap.size w5o.heap.size sb qs) := VS7.out.keep (Oz.of hb)
  have VT8 : Hid (Vr gd w8 w6o.heap.size w5.heap.size w6o.heap.size so qt) := VT7.out.keep (Oz.of hb)
  have VX8 : Hid (Vr gd w8 w7o.heap.size w6.heap.size w7o.heap.size sb qx) := VX7.out.keep (Oz.of hb)
  have BK8 : Hid (Blk .u8 w8 gd 5 (mk2 zb)) := BK7.out.below hb S7.out
  have S8 : Hid (gd < w8.heap.size) := Nat.lt_of_lt_of_le S7.out hb.size
  have L8 : Hid (Below w.heap.size w w8) := L7.out.trans (hb.mono L7.out.size)
  clear hb VB7 VO7 VS7 VT7 VX7 BK7
  obtain ⟨y0, y1, y2, y3, y4, y5, y6, y7, y8, y9, y10, y11, y12, y13⟩ := q14_cells VS8.out.heap
  obtain ⟨v0, v1, v2, v3, v4, v5, v6, v7, v8, v9, v10, v11, v12, v13⟩ := q14_cells VB8.out.heap
  go_wp2_with fail
  refine (same_vr VS8.out VB8.out).mono ?_
  rintro e w9 ⟨rfl, hb⟩
  have VB9 : Hid (Vr gd w9 w2o.heap.size w1.heap.size w2o.heap.size sb qb) := VB8.out.keep (Oz.of hb)
  have VO9 : Hid (Vr gd w9 w3o.heap.size w2.heap.size w3o.heap.size so qo) := VO8.out.keep (Oz.of hb)
  have VS9 : Hid (Vr gd w9 w5o.heap.size w4.heap.size w5o.heap.size sb qs) := VS8.out.keep (Oz.of hb)
  have VT9 : Hid (Vr gd w9 w6o.heap.size w5.heap.size w6o.heap.size so qt) := VT8.out.keep (Oz.of hb)
  have VX9 : Hid (Vr gd w9 w7o.heap.size w6.heap.size w7o.heap.size sb qx) := VX8.out.keep (Oz.of hb)
  have BK9 : Hid (Blk .u8 w9 gd 5 (mk2 zb)) := BK8.out.below hb S8.out
  have S9 : Hid (gd < w9.heap.size) := Nat.lt_of_lt_of_le S8.out hb.size
  have L9 : Hid (Below w.heap.size w w9) := L8.out.trans (hb.mono L8.out.size)
  clear hb VB8 VO8 VS8 VT8 VX8 BK8
  clear y0 y1 y2 y3 y4 y5 y6 y7 y8 y9 y10 y11 y12 y13 v0 v1 v2 v3 v4 v5 v6 v7 v8 v9 v10 v11 v12 v13
  obtain ⟨y0, y1, y2, y3, y4, y5, y6, y7, y8, y9, y10, y11, y12, y13⟩ := q14_cells VT9.out.heap
  obtain ⟨v0, v1, v2, v3, v4, v5, v6, v7, v8, v9, v10, v11, v12, v13⟩ := q14_cells VO9.out.heap
  go_wp2_with fail
  refine (same_vr VT9.out VO9.out).mono ?_
  rintro e w10 ⟨rfl, hb⟩
  have VB10 : Hid (Vr gd w10 w2o.heap.size w1.heap.size w2o.heap.size sb qb) := VB9.out.keep (Oz.of hb)
  have VO10 : Hid (Vr gd w10 w3o.heap.size w2.heap.size w3o.heap.size so qo) := VO9.out.keep (Oz.of hb)
  have VS10 : Hid (Vr gd w10 w5o.heap.size w4.heap.size w5o.heap.size sb qs) := VS9.out.keep (Oz.of hb)
  have VT10 : Hid (Vr gd w10 w6o.heap.size w5.heap.size w6o.heap.size so qt) := VT9.out.keep (Oz.of hb)
  have VX10 : Hid (Vr gd w10 w7o.heap.size w6.heap.size w7o.heap.size sb qx) := VX9.out.keep (Oz.of hb)
  have BK10 : Hid (Blk .u8 w10 gd 5 (mk2 zb)) := BK9.out.below hb S9.out
  have S10 : Hid (gd < w10.heap.size) := Nat.lt_of_lt_of_le S9.out hb.size
  have L10 : Hid (Below w.heap.size w w10) := L9.out.trans (hb.mono L9.out.size)
  clear hb VB9 VO9 VS9 VT9 VX9 BK9
  clear y0 y1 y2 y3 y4 y5 y6 y7 y8 y9 y10 y11 y12 y13 v0 v1 v2 v3 v4 v5 v6 v7 v8 v9 v10 v11 v12 v13
  obtain ⟨y0, y1, y2, y3, y4, y5, y6, y7, y8, y9, y10, y11, y12, y13⟩ := q14_cells VX10.out.heap
  obtain ⟨v0, v1, v2, v3, v4, v5, v6, v7, v8, v9, v10, v11, v12, v13⟩ := q14_cells VB10.out.heap
  go_wp2_with fail
  refine (same_vr VX10.out VB10.out).mono ?_
  rintro e w11 ⟨rfl, hb⟩
  have VB11 : Hid (Vr gd w11 w2o.heap.size w1.heap.size w2o.heap.size sb qb) := VB10.out.keep (Oz.of hb)
  have VO11 : Hid (Vr gd w11 w3o.heap.size w2.heap.size w3o.heap.size so qo) := VO10.out.keep (Oz.of hb)
  have VS11 : Hid (Vr gd w11 w5o.heap.size w4.heap.size w5o.heap.size sb qs) := VS10.out.keep (Oz.of hb)
  have VT11 : Hid (Vr gd w11 w6o.heap.size w5.heap.size w6o.heap.size so qt) := VT10.out.keep (Oz.of hb)
  have VX11 : Hid (Vr gd w11 w7o.heap.size w6.heap.size w7o.heap.size sb qx) := VX10.out.keep (Oz.of hb)
  have BK11 : Hid (Blk .u8 w11 gd 5 (mk2 zb)) := BK10.out.below hb S10.out
  have S11 : Hid (gd < w11.heap.size) := Nat.lt_of_lt_of_le S10.out hb.size
  have L11 : Hid (Below w.heap.size w w11) := L10.out.trans (hb.mono L10.out.size)
  clear hb VB10 VO10 VS10 VT10 VX10 BK10
  clear y0 y1 y2 y3 y4 y5 y6 y7 y8 y9 y10 y11 y12 y13 v0 v1 v2 v3 v4 v5 v6 v7 v8 v9 v10 v11 v12 v13
  have e1 : (eb != eb) = false := by simp
  have e2 : (eo != eo) = false := by simp
  have O11 : Hid (Oz gd w11 w11) := Oz.refl _ _
  go_upto_if 105 with fail
  go_cut [10] from 103 to 117 (fun q wx => q = (.slice (some ⟨gd, 0, none⟩) nb (nb + 2)) ∧ Hid (∃ zu, zu.length = nb ∧ Bytey zu ∧ Blk .u8 wx gd 5 (mk2 zu) ∧ Oz gd w11 wx))
  case first =>
    by_cases hpos : 0 < nb
    · have hpos' : (0 : Int) < (nb : Int) := by omega
      obtain ⟨m, rfl⟩ : ∃ m, nb = m + 1 := ⟨nb - 1, by omega⟩
      have hml : m < (mk2 zb).length := by rw [mk2_len, HLn.out.1]; omega
      have hce := BK11.out.cell m hml
      have hfz := BK11.out.frozen m
      have hgb : 0 ≤ (mk2 zb).getD m 0 ∧ (mk2 zb).getD m 0 ≤ 255 := by
        have : (mk2 zb).getD m 0 = zb.getD m 0 := by
          unfold mk2
          rw [List.getD_eq_getElem?_getD, List.getElem?_append_left (by rw [HLn.out.1]; omega), ← List.getD_eq_getElem?_getD]
        rw [this, List.getD_eq_getElem?_getD, List.getElem?_eq_getElem (by rw [HLn.out.1]; omega)]
        exact HLn.out.2.1 _ (List.getElem_mem _)
      obtain ⟨c, hc⟩ : ∃ c, (mk2 zb).getD m 0 = c := ⟨_, rfl⟩
      rw [hc] at hce hgb
      have hwm : IntKind.i64.wrap (((m + 1 : Nat) : Int) - 1) = (m : Int) := by rw [IntKind.wrap_i64]; omega
      have hm0 : ((m + 1 : Nat) : Int) - 1 = (m : Int) := by omega
      have hm1 : (m : Int) < ((m + 1 : Nat) : Int) := by omega
      have HX : Hid (∃ zu, zu.length = m + 1 ∧ Bytey zu ∧ Blk .u8 (w11.setCell ⟨gd, m, none⟩ (.int .u8 (bits .xor .u8 c 1))) gd 5 (mk2 zu) ∧ Oz gd w11 (w11.setCell ⟨gd, m, none⟩ (.int .u8 (bits .xor .u8 c 1)))) := by
        refine ⟨zb.set m (xq c), by rw [List.length_set]; exact HLn.out.1, fun z hz => ?_, ?_, Oz.set⟩
        · rcases List.mem_or_eq_of_mem_set hz with h | h
          · exact HLn.out.2.1 z h
          · rw [h]; exact xq_byte hgb
        · rw [← mk2_setX zb m _ (by rw [HLn.out.1]; omega)]
          exact BK11.out.set m _
      clear hc hgb
      go_wp2_with fail
      go_meet
      exact ⟨rfl, HX⟩
    · have hpos' : ¬ (0 : Int) < (nb : Int) := by omega
      have HX : Hid (∃ zu, zu.length = nb ∧ Bytey zu ∧ Blk .u8 w11 gd 5 (mk2 zu) ∧ Oz gd w11 w11) := ⟨zb, HLn.out.1, HLn.out.2.1, BK11.out, O11.out⟩
      go_wp2_with fail
      go_meet
      exact ⟨rfl, HX⟩
  case rest =>
  obtain ⟨rfl, HX⟩ := hcut
  obtain ⟨w12, hwq⟩ : ∃ x, x = wc := ⟨_, rfl⟩
  subst hwq
  obtain ⟨zu, hul, hub, huk, hoz⟩ := HX.out
  obtain ⟨⟨eu, su⟩, hzu⟩ : ∃ q, prs zu = q := ⟨_, rfl⟩
  have HZu : Hid (prs zu = (eu, su)) := hzu
  have HUn : Hid (∀ V, Blk .u8 V gd 5 (mk2 zu) → BIn V (.slice (some ⟨gd, 0, none⟩) nb (nb + 2)) zu) := fun V h => by have := h.bin2 hub (by omega); rw [hul] at this; exact this
  have HUl : Hid (zu.length = nb) := hul
  have BU12 : Hid (Blk .u8 w12 gd 5 (mk2 zu)) := huk
  have VB12 : Hid (Vr gd w12 w2o.heap.size w1.heap.size w2o.heap.size sb qb) := VB11.out.keep hoz
  have VO12 : Hid (Vr gd w12 w3o.heap.size w2.heap.size w3o.heap.size so qo) := VO11.out.keep hoz
  have VS12 : Hid (Vr gd w12 w5o.heap.size w4.heap.size w5o.heap.size sb qs) := VS11.out.keep hoz
  have VT12 : Hid (Vr gd w12 w6o.heap.size w5.heap.size w6o.heap.size so qt) := VT11.out.keep hoz
  have VX12 : Hid (Vr gd w12 w7o.heap.size w6.heap.size w7o.heap.size sb qx) := VX11.out.keep hoz
  have ZT12 : Hid (w7o.heap.size ≤ w12.heap.size) := VX12.out.top
  have L12 : Hid (Below w.heap.size w w12) := Oz.low L11.out hoz HGd.out.2
  have S12 : Hid (gd < w12.heap.size) := Nat.lt_of_lt_of_le S11.out hoz.size
  clear hul hub huk hoz hzu HX VB11 VO11 VS11 VT11 VX11 BK11 O11
  go_wp2_with fail
  refine (ref_parse (HUn.out w12 BU12.out) HZu.out).mono ?_
  rintro e w13o ⟨qn, rfl, hs, hb⟩
  obtain ⟨hst, hbn, hsz, hvr⟩ := vr_new hs hb
  have L13 : Hid (Below w.heap.size w ((w13o.alloc zQ).setRow w13o.heap.size (sC su qn.hv qn.tv qn.dv qn.cv))) := L12.out.trans (hbn.mono L12.out.size)
  have Bw13 : Hid (Below w12.heap.size w12 ((w13o.alloc zQ).setRow w13o.heap.size (sC su qn.hv qn.tv qn.dv qn.cv))) := hbn
  have Nw13 : Hid (∀ gd, gd < w12.heap.size ∨ w13o.heap.size + 1 ≤ gd → Vr gd ((w13o.alloc zQ).setRow w13o.heap.size (sC su qn.hv qn.tv qn.dv qn.cv)) w13o.heap.size w12.heap.size w13o.heap.size su qn) := hvr
  have Zw13 : Hid (((w13o.alloc zQ).setRow w13o.heap.size (sC su qn.hv qn.tv qn.dv qn.cv)).heap.size = w13o.heap.size + 1 ∧ w12.heap.size ≤ w13o.heap.size) := ⟨hsz, hb.size⟩
  clear hs hb hbn hsz hvr
  go_upto_region 17 with fail
  obtain ⟨w13, hWn⟩ : ∃ x, (w13o.alloc zQ).setRow w13o.heap.size (sC su qn.hv qn.tv qn.dv qn.cv) = x := ⟨_, rfl⟩
  rw [hWn] at L13 Bw13 Nw13 Zw13 ⊢
  clear hWn hst
  have VB13 : Hid (Vr gd w13 w2o.heap.size w1.heap.size w2o.heap.size sb qb) := VB12.out.keep (Oz.of Bw13.out)
  have VO13 : Hid (Vr gd w13 w3o.heap.size w2.heap.size w3o.heap.size so qo) := VO12.out.keep (Oz.of Bw13.out)
  have VS13 : Hid (Vr gd w13 w5o.heap.size w4.heap.size w5o.heap.size sb qs) := VS12.out.keep (Oz.of Bw13.out)
  have VT13 : Hid (Vr gd w13 w6o.heap.size w5.heap.size w6o.heap.size so qt) := VT12.out.keep (Oz.of Bw13.out)
  have VX13 : Hid (Vr gd w13 w7o.heap.size w6.heap.size w7o.heap.size sb qx) := VX12.out.keep (Oz.of Bw13.out)
  have BU13 : Hid (Blk .u8 w13 gd 5 (mk2 zu)) := BU12.out.below Bw13.out S12.out
  have S13 : Hid (gd < w13.heap.size) := Nat.lt_of_lt_of_le S12.out Bw13.out.size
  have VN13 : Hid (Vr gd w13 w13o.heap.size w12.heap.size w13o.heap.size su qn) := Nw13.out gd (.inl S12.out)
  clear Nw13 Bw13 VB12 VO12 VS12 VT12 VX12 BU12
  go_wp2_with fail
  refine (prog_parse (HUn.out w13 BU13.out) (HT.out w13 L13.out) HZu.out).mono ?_
  rintro e w14o ⟨qy, rfl, hs, hb⟩
  obtain ⟨hst, hbn, hsz, hvr⟩ := vr_new hs hb
  have L14 : Hid (Below w.heap.size w ((w14o.alloc zQ).setRow w14o.heap.size (sC su qy.hv qy.tv qy.dv qy.cv))) := L13.out.trans (hbn.mono L13.out.size)
  have Bw14 : Hid (Below w13.heap.size w13 ((w14o.alloc zQ).setRow w14o.heap.size (sC su qy.hv qy.tv qy.dv qy.cv))) := hbn
  have Nw14 : Hid (∀ gd, gd < w13.heap.size ∨ w14o.heap.size + 1 ≤ gd → Vr gd ((w14o.alloc zQ).setRow w14o.heap.size (sC su qy.hv qy.tv qy.dv qy.cv)) w14o.heap.size w13.heap.size w14o.heap.size su qy) := hvr
  have Zw14 : Hid (((w14o.alloc zQ).setRow w14o.heap.size (sC su qy.hv qy.tv qy.dv qy.cv)).heap.size = w14o.heap.size + 1 ∧ w13.heap.size ≤ w14o.heap.size) := ⟨hsz, hb.size⟩
  clear hs hb hbn hsz hvr
  go_upto_region 18 with fail
  obtain ⟨w14, hWn⟩ : ∃ x, (w14o.alloc zQ).setRow w14o.heap.size (sC su qy.hv qy.tv qy.dv qy.cv) = x := ⟨_, rfl⟩
  rw [hWn] at L14 Bw14 Nw14 Zw14 ⊢
  clear hWn hst
  have VB14 : Hid (Vr gd w14 w2o.heap.size w1.heap.size w2o.heap.size sb qb) := VB13.out.keep (Oz.of Bw14.out)
  have VO14 : Hid (Vr gd w14 w3o.heap.size w2.heap.size w3o.heap.size so qo) := VO13.out.keep (Oz.of Bw14.out)
  have VS14 : Hid (Vr gd w14 w5o.heap.size w4.heap.size w5o.heap.size sb qs) := VS13.out.keep (Oz.of Bw14.out)
  have VT14 : Hid (Vr gd w14 w6o.heap.size w5.heap.size w6o.heap.size so qt) := VT13.out.keep (Oz.of Bw14.out)
  have VX14 : Hid (Vr gd w14 w7o.heap.size w6.heap.size w7o.heap.size sb qx) := VX13.out.keep (Oz.of Bw14.out)
  have VN14 : Hid (Vr gd w14 w13o.heap.size w12.heap.size w13o.heap.size su qn) := VN13.out.keep (Oz.of Bw14.out)
  have BU14 : Hid (Blk .u8 w14 gd 5 (mk2 zu)) := BU13.out.below Bw14.out S13.out
  have S14 : Hid (gd < w14.heap.size) := Nat.lt_of_lt_of_le S13.out Bw14.out.size
  have VY14 : Hid (Vr gd w14 w14o.heap.size w13.heap.size w14o.heap.size su qy) := Nw14.out gd (.inl S13.out)
  clear Nw14 Bw14 VB13 VO13 VS13 VT13 VX13 VN13 BU13
  obtain ⟨y0, y1, y2, y3, y4, y5, y6, y7, y8, y9, y10, y11, y12, y13⟩ := q14_cells VY14.out.heap
  obtain ⟨v0, v1, v2, v3, v4, v5, v6, v7, v8, v9, v10, v11, v12, v13⟩ := q14_cells VN14.out.heap
  go_wp2_with fail
  refine (same_vr VY14.out VN14.out).mono ?_
  rintro e w15 ⟨rfl, hb⟩
  have VB15 : Hid (Vr gd w15 w2o.heap.size w1.heap.size w2o.heap.size sb qb) := VB14.out.keep (Oz.of hb)
  have VO15 : Hid (Vr gd w15 w3o.heap.size w2.heap.size w3o.heap.size so qo) := VO14.out.keep (Oz.of hb)
  have VS15 : Hid (Vr gd w15 w5o.heap.size w4.heap.size w5o.heap.size sb qs) := VS14.out.keep (Oz.of hb)
  have VT15 : Hid (Vr gd w15 w6o.heap.size w5.heap.size w6o.heap.size so qt) := VT14.out.keep (Oz.of hb)
  have VX15 : Hid (Vr gd w15 w7o.heap.size w6.heap.size w7o.heap.size sb qx) := VX14.out.keep (Oz.of hb)
  have VN15 : Hid (Vr gd w15 w13o.heap.size w12.heap.size w13o.heap.size su qn) := VN14.out.keep (Oz.of hb)
  have VY15 : Hid (Vr gd w15 w14o.heap.size w13.heap.size w14o.heap.size su qy) := VY14.out.keep (Oz.of hb)
  have BU15 : Hid (Blk .u8 w15 gd 5 (mk2 zu)) := BU14.out.below hb S14.out
  have S15 : Hid (gd < w15.heap.size) := Nat.lt_of_lt_of_le S14.out hb.size
  have L15 : Hid (Below w.heap.size w w15) := L14.out.trans (hb.mono L14.out.size)
  clear hb VB14 VO14 VS14 VT14 VX14 VN14 VY14 BU14
  clear y0 y1 y2 y3 y4 y5 y6 y7 y8 y9 y10 y11 y12 y13 v0 v1 v2 v3 v4 v5 v6 v7 v8 v9 v10 v11 v12 v13
  go_wp2_with fail
  go_loopw [26] (fun i wr => ∃ (k : Nat), k ≤ nb ∧ i = .int .i64 k ∧ Hid (∃ L, L.length = nb + 2 ∧ Blk .u8 wr gd 5 L ∧ Oz gd w15 wr)) (fun i _ => nb - (intOf i).toNat)
  case atStart => exact ⟨0, by omega, rfl, mk2 zu, by rw [mk2_len, HUl.out], BU15.out, Oz.refl _ _⟩
  case round =>
    obtain ⟨k, hk, rfl, HJ⟩ := hrel
    by_cases hlt : k < nb
    · have hlt' : (k : Int) < (nb : Int) := by omega
      obtain ⟨Lz, hLl, hLk, hLo⟩ := HJ.out
      have hce := hLk.cell k (by omega)
      have hfz := hLk.frozen k
      have HR : Hid (∃ L, L.length = nb + 2 ∧ Blk .u8 (wr.setCell ⟨gd, k, none⟩ (.int .u8 99)) gd 5 L ∧ Oz gd w15 (wr.setCell ⟨gd, k, none⟩ (.int .u8 99))) := ⟨Lz.set k 99, by rw [List.length_set]; exact hLl, hLk.set k 99, hLo.trans Oz.set⟩
      generalize Lz.getD k 0 = cz at hce
      clear hLl hLk hLo HJ
      go_wp2
      go_roundw
      case rel => first | exact ⟨k + 1, by omega, by go_num, HR⟩ | exact ⟨k + 1, by omega, by omega, HR⟩
      case measure => simp [intOf]; omega
    · have hlt' : ¬ (k : Int) < (nb : Int) := by omega
      obtain ⟨Lz, hLl, hLk, hoz⟩ := HJ.out
      obtain ⟨w16, hwq⟩ : ∃ x, x = wr := ⟨_, rfl⟩
      subst hwq
      have VB16 : Hid (Vr gd w16 w2o.heap.size w1.heap.size w2o.heap.size sb qb) := VB15.out.keep hoz
      have VO16 : Hid (Vr gd w16 w3o.heap.size w2.heap.size w3o.heap.size so qo) := VO15.out.keep hoz
      have VS16 : Hid (Vr gd w16 w5o.heap.size w4.heap.size w5o.heap.size sb qs) := VS15.out.keep hoz
      have VT16 : Hid (Vr gd w16 w6o.heap.size w5.heap.size w6o.heap.size so qt) := VT15.out.keep hoz
      have VX16 : Hid (Vr gd w16 w7o.heap.size w6.heap.size w7o.heap.size sb qx) := VX15.out.keep hoz
      have VN16 : Hid (Vr gd w16 w13o.heap.size w12.heap.size w13o.heap.size su qn) := VN15.out.keep hoz
      have VY16 : Hid (Vr gd w16 w14o.heap.size w13.heap.size w14o.heap.size su qy) := VY15.out.keep hoz
      have L16 : Hid (Below w.heap.size w w16) := Oz.low L15.out hoz HGd.out.2
      have S16 : Hid (gd < w16.heap.size) := Nat.lt_of_lt_of_le S15.out hoz.size
      clear hLl hLk hoz HJ
      obtain ⟨y0, y1, y2, y3, y4, y5, y6, y7, y8, y9, y10, y11, y12, y13⟩ := q14_cells VX16.out.heap
      obtain ⟨v0, v1, v2, v3, v4, v5, v6, v7, v8, v9, v10, v11, v12, v13⟩ := q14_cells VB16.out.heap
      go_wp2_with fail
      refine (same_vr VX16.out VB16.out).mono ?_
      rintro e w17 ⟨rfl, hb⟩
      have VB17 : Hid (Vr gd w17 w2o.heap.size w1.heap.size w2o.heap.size sb qb) := VB16.out.keep (Oz.of hb)
      have VO17 : Hid (Vr gd w17 w3o.heap.size w2.heap.size w3o.heap.size so qo) := VO16.out.keep (Oz.of hb)
      have VS17 : Hid (Vr gd w17 w5o.heap.size w4.heap.size w5o.heap.size sb qs) := VS16.out.keep (Oz.of hb)
      have VT17 : Hid (Vr gd w17 w6o.heap.size w5.heap.size w6o.heap.size so qt) := VT16.out.keep (Oz.of hb)
      have VX17 : Hid (Vr gd w17 w7o.heap.size w6.heap.size w7o.heap.size sb qx) := VX16.out.keep (Oz.of hb)
      have VN17 : Hid (Vr gd w17 w13o.heap.size w12.heap.size w13o.heap.size su qn) := VN16.out.keep (Oz.of hb)
      have VY17 : Hid (Vr gd w17 w14o.heap.size w13.heap.size w14o.heap.size su qy) := VY16.out.keep (Oz.of hb)
      have S17 : Hid (gd < w17.heap.size) := Nat.lt_of_lt_of_le S16.out hb.size
      have L17 : Hid (Below w.heap.size w w17) := L16.out.trans (hb.mono L16.out.size)
      clear hb VB16 VO16 VS16 VT16 VX16 VN16 VY16 
      clear y0 y1 y2 y3 y4 y5 y6 y7 y8 y9 y10 y11 y12 y13 v0 v1 v2 v3 v4 v5 v6 v7 v8 v9 v10 v11 v12 v13
      obtain ⟨y0, y1, y2, y3, y4, y5, y6, y7, y8, y9, y10, y11, y12, y13⟩ := q14_cells VY17.out.heap
      obtain ⟨v0, v1, v2, v3, v4, v5, v6, v7, v8, v9, v10, v11, v12, v13⟩ := q14_cells VN17.out.heap
      go_wp2_with fail
      refine (same_vr VY17.out VN17.out).mono ?_
      rintro e w18 ⟨rfl, hb⟩
      have VB18 : Hid (Vr gd w18 w2o.heap.size w1.heap.size w2o.heap.size sb qb) := VB17.out.keep (Oz.of hb)
      have VO18 : Hid (Vr gd w18 w3o.heap.size w2.heap.size w3o.heap.size so qo) := VO17.out.keep (Oz.of hb)
      have VS18 : Hid (Vr gd w18 w5o.heap.size w4.heap.size w5o.heap.size sb qs) := VS17.out.keep (Oz.of hb)
      have VT18 : Hid (Vr gd w18 w6o.heap.size w5.heap.size w6o.heap.size so qt) := VT17.out.keep (Oz.of hb)
      have VX18 : Hid (Vr gd w18 w7o.heap.size w6.heap.size w7o.heap.size sb qx) := VX17.out.keep (Oz.of hb)
      have VN18 : Hid (Vr gd w18 w13o.heap.size w12.heap.size w13o.heap.size su qn) := VN17.out.keep (Oz.of hb)
      have VY18 : Hid (Vr gd w18 w14o.heap.size w13.heap.size w14o.heap.size su qy) := VY17.out.keep (Oz.of hb)
      have S18 : Hid (gd < w18.heap.size) := Nat.lt_of_lt_of_le S17.out hb.size
      have L18 : Hid (Below w.heap.size w w18) := L17.out.trans (hb.mono L17.out.size)
      clear hb VB17 VO17 VS17 VT17 VX17 VN17 VY17 
      clear y0 y1 y2 y3 y4 y5 y6 y7 y8 y9 y10 y11 y12 y13 v0 v1 v2 v3 v4 v5 v6 v7 v8 v9 v10 v11 v12 v13
      have e3 : (eu != eu) = false := by simp
      have hTk := end_take VS18.out VT18.out VX18.out VY18.out (by have := Zw5.out; have := Zw6.out; omega) (by have := Zw6.out; have := Zw7.out; omega) (by have := ZT12.out; have := Zw13.out; omega) L18.out (by have := L4.out.size; omega)
      obtain ⟨y0, y1, y2, y3, y4, y5, y6, y7, y8, y9, y10, y11, y12, y13⟩ := q14_cells VS18.out.heap
      obtain ⟨v0, v1, v2, v3, v4, v5, v6, v7, v8, v9, v10, v11, v12, v13⟩ := q14_cells VT18.out.heap
      obtain ⟨a0, a1, a2, a3, a4, a5, a6, a7, a8, a9, a10, a11, a12, a13⟩ := q14_cells VX18.out.heap
      obtain ⟨b0, b1, b2, b3, b4, b5, b6, b7, b8, b9, b10, b11, b12, b13⟩ := q14_cells VY18.out.heap
      go_upto_region 28 with fail
      have hcellA : ∀ g i u, w18.cell? ⟨g, i, none⟩ = some u → (w18.alloc (.cells #[nlX, nlX, nlX] 43)).cell? ⟨g, i, none⟩ = some u := fun g i u h => cell_below h ((Below.refl _ _).alloc (Nat.le_refl _) _)
      go_wp2_with fail
      refine hTk.mono ?_
      rintro e w19 hP
      have hOw := end_owned hP
      obtain ⟨rfl, _⟩ := hP
      clear hTk y0 y1 y2 y3 y4 y5 y6 y7 y8 y9 y10 y11 y12 y13 v0 v1 v2 v3 v4 v5 v6 v7 v8 v9 v10 v11 v12 v13 a0 a1 a2 a3 a4 a5 a6 a7 a8 a9 a10 a11 a12 a13 b0 b1 b2 b3 b4 b5 b6 b7 b8 b9 b10 b11 b12 b13
      go_wp2_with fail
      refine hOw.mono ?_
      rintro e w20 ⟨rfl, hb⟩
      have HE : Hid (Below w.heap.size w w20) := hb
      clear hb hOw
      go_wp2
      first | exact ⟨rfl, HE.out⟩ | (go_ret; exact ⟨rfl, HE.out⟩)

end Go.Proofs.YtkkmoplijicmpabDoor

namespace Go.Proofs.YtkkmoplijicmpabDoor.segmentParsesUpto
open Go.ChangeShapes Go.WideShapes Go.ChangeAt Go.RowKit

theorem gTab : Tryd.prog.globalNamed "lantern/segment.shapes" = some 0 := by kernel_rfl
theorem gTabType : (Tryd.prog.globals[0]?).map (·.type) = some 88 := by kernel_rfl
theorem cellsTab : Tryd.prog.cellsOf 88 = 16 := by kernel_rfl
theorem cellsParts : Tryd.prog.cellsOf 58 = 1 := by kernel_rfl

/-- What the row's list gives: the table's cells hold its numbers. -/
theorem table {W : World} (h : laidMetH Tryd.prog Rows.segmentParsesUptoRow.laid W) : Tab W := by
  have h1 : Lib.TabIs Tryd.prog W "lantern/segment.shapes" .u8 tabl :=
    Lib.tabIs_of_head (rest := []) gTab gTabType Tryd.underlying88 Tryd.underlying58 cellsParts cellsTab h
  exact fun i hi => h1.cell gTab i hi

/-- A world for the witness: the table holds what its initialiser lays. -/
noncomputable def laidWorld (os : Os) : World :=
  { World.holding Tryd.prog os ⟨#[], #[], []⟩ with heap := (World.holding Tryd.prog os ⟨#[], #[], []⟩).heap.modify 0 fun
      | .cells _ t frozen => .cells #[.int .u8 3, .int .u8 7, .int .u8 7, .int .u8 7, .int .u8 3, .int .u8 0, .int .u8 0, .int .u8 3, .int .u8 9, .int .u8 17, .int .u8 0, .int .u8 0, .int .u8 33, .int .u8 1, .int .u8 33, .int .u8 1] t frozen
      | o => o }
theorem laid_met (os : Os) : laidMet Tryd.prog Rows.segmentParsesUptoRow.laid ((laidWorld os).forCall (fun _ _ => 0) ⟨#[], #[.slice none 0 0, .slice none 0 0], []⟩).memory :=
  laidMet_of_run' 8 (by kernel_rfl) (by kernel_rfl)
theorem reads (os : Os) {H : Type} (enc : TypeId × Value → H) : ∃ places, DataW.whole enc Tryd.prog ((laidWorld os).forCall (fun _ _ => 0) ⟨#[], #[.slice none 0 0, .slice none 0 0], []⟩).memory Tryd.f4.params.toList Rows.segmentParsesSpec.vars false #[Value.slice none 0 0, Value.slice none 0 0].toList 8 = some ([.nil, .nil], [], places) :=
  ⟨[], by kernel_rfl⟩

set_option maxRecDepth 100000 in
theorem lifted (os : Os) (started : os.Started) (H : Type) (enc : TypeId × Value → H) (F : Stop.Interp) :
    ReturnsInHanded {} Tryd.checked os 4 .any ((Rows.OpenSpec.upto Rows.segmentParsesSpec).preRow enc Tryd.prog Tryd.f4 Rows.segmentParsesUptoRow.domain false Rows.segmentParsesUptoRow.laid) (((Rows.OpenSpec.upto Rows.segmentParsesSpec).at F).post enc Tryd.prog Tryd.f4 false true false false) := by
  obtain ⟨places, hx⟩ := reads os enc
  refine returnsInHanded_of_row (C := Tryd.checked) (s := Rows.OpenSpec.upto Rows.segmentParsesSpec) own started (by kernel_rfl) Tryd.func4
    (witness_row_at (enc := enc) (C := Tryd.checked) false (laidWorld os) #[.slice none 0 0, .slice none 0 0] rfl (by kernel_rfl) (by kernel_rfl) (by kernel_rfl)
      (OpenSpec.preRow_of_cond 8 hx (by kernel_rfl) (fun k hk => by cases hk; kernel_rfl) (by kernel_rfl) (laid_met os))) ?_
  intro W base args ds gs before hval0 hW _ hk0 _ hL _ _
  have hval : ∀ (j : Nat) t v, Tryd.f4.params[j]? = some t → args[j]? = some v → Value.okWide Tryd.prog W .any base t v := hval0
  have hW' := hW
  obtain ⟨p, q, hA0, hV, rfl, hfz, hnd⟩ := hW
  have hA : DataW.TrodAll enc Tryd.prog W 0 (fun _ => true) true Tryd.f4.params.toList args.toList ds p := hA0
  rw [Tryd.params4] at hA hval
  obtain ⟨v0, vs0, d0, ds0, p0, q0, hargs, rfl, rfl, h0, r0⟩ := trodAll_cons hA
  obtain ⟨v1, vs1, d1, ds1, p1, q1, rfl, rfl, rfl, h1, r1⟩ := trodAll_cons r0
  obtain ⟨rfl, rfl, rfl⟩ := trodAll_nil r1
  obtain rfl : args = #[v0, v1] := by cases args; simp_all
  obtain ⟨rfl, rfl⟩ := trodVars_none hV
  have hk : Rows.uptoBulkAll [d0, d1] ≤ 1048576 := by have h := of_decide_eq_true (hk0 _ rfl); simpa only [List.append_nil] using h
  simp only [Rows.uptoBulkAll] at hk
  have lt0 : ∀ x ∈ p0, x.block < W.heap.size := by obtain ⟨m, hm⟩ := h0; exact DataW.trod_lt m _ _ _ hm
  have lt1 : ∀ x ∈ p1, x.block < W.heap.size := by obtain ⟨m, hm⟩ := h1; exact DataW.trod_lt m _ _ _ hm
  obtain ⟨a1, len1, cap1, rfl⟩ := okWide_slice Tryd.underlying25 (hval 0 25 v0 rfl rfl)
  obtain ⟨z1, l1, c1, b1, e1, n1⟩ := given_ints Tryd.underlying25 Tryd.underlying5 (by kernel_rfl) h0
  have m1 := bulk_ints l1 e1
  obtain ⟨a2, len2, cap2, rfl⟩ := okWide_slice Tryd.underlying25 (hval 1 25 v1 rfl rfl)
  obtain ⟨z2, l2, c2, b2, e2, n2⟩ := given_ints Tryd.underlying25 Tryd.underlying5 (by kernel_rfl) h1
  have m2 := bulk_ints l2 e2
  clear hA0 hval0
  have i1 : BIn W (.slice a1 len1 cap1) z1 := ⟨⟨a1, cap1, by rw [l1], c1, fun h => by rw [l1]; exact n1 h, by rw [l1]; exact m1.1, by omega⟩, bytey_of b1, by rw [l1]; omega⟩
  have i2 : BIn W (.slice a2 len2 cap2) z2 := ⟨⟨a2, cap2, by rw [l2], c2, fun h => by rw [l2]; exact n2 h, by rw [l2]; exact m2.1, by omega⟩, bytey_of b2, by rw [l2]; omega⟩
  refine (parses_walk a1 a2 len1 cap1 len2 cap2 z1 z2 W (table hL) l1 l2 i1 i2).mono fun e W' ⟨he, bel⟩ => ?_
  subst he
  exact ⟨_, rfl, _, _, _, [], _, [], hW', trodAll_mk1 (shut_bool Tryd.underlying4 _), (trodAll_cons_mk (Below.trod laidOut (by kernel_rfl) (of_decide_eq_true (by kernel_rfl)) h0 bel lt0) (trodAll_cons_mk (Below.trod laidOut (by kernel_rfl) (of_decide_eq_true (by kernel_rfl)) h1 bel lt1) (trodAll_mk0))), rfl, bel.frame _, fun h => by cases h⟩

theorem plain (f : FuncId) (fn : Func) (hf : Tryd.pinned.checked.prog.funcNamed "lantern/lanternlaw02.SegmentParses" = some f) (hfn : Tryd.pinned.checked.prog.funcs[f]? = some fn) :
    false = Tryd.pinned.checked.prog.looks [] ∧ ∀ (j : Nat) t, fn.params[j]? = some t → Tryd.pinned.checked.prog.wantsStandIn t = false := by
  obtain rfl : f = 4 := Option.some.inj ((show Tryd.prog.funcNamed "lantern/lanternlaw02.SegmentParses" = some 4 by kernel_rfl).symm.trans hf) |>.symm
  obtain rfl : fn = Tryd.f4 := (Option.some.inj (Tryd.func4.symm.trans hfn)).symm
  refine ⟨by kernel_rfl, fun j t ht => ?_⟩
  rw [Tryd.params4] at ht
  have hm : t = 25 := by simpa using Array.mem_of_getElem? ht
  subst hm
  exact (show Tryd.prog.wantsStandIn 25 = false by kernel_rfl)

end Go.Proofs.YtkkmoplijicmpabDoor.segmentParsesUpto

namespace Go.Proofs.YtkkmoplijicmpabDoor

theorem segmentParses_said : Rows.SegmentParsesUptoSaid :=
  OpenClaim.holds_of_cond 4 Tryd.f4 rfl rfl rfl rfl rfl rfl rfl ⟨rfl, rfl, rfl, rfl, rfl⟩ rfl rfl rfl rfl rfl (by kernel_rfl) Tryd.func4 (by kernel_rfl)
    (of_decide_eq_true (by kernel_rfl)) (by unfold Func.isWrapper; first | (rw [if_pos (by decide +kernel)]; kernel_rfl) | (rw [if_neg (by decide +kernel)]; exact ⟨rfl, rfl⟩))
    (fun os started H enc _ F => by rw [OpenClaim.pre_eq_preRow]; exact segmentParsesUpto.lifted os started H enc F)

theorem segmentParses_upto : Rows.SegmentParsesUptoCardSaid :=
  Claim7.holds_tied_plain_at .later [] _ _ _ _ segmentParses_said (fun _ h => by cases h) (by kernel_rfl) (fun _ h => by cases h) segmentParsesUpto_row_tie rfl ⟨rfl, rfl⟩ (by kernel_rfl) rfl segmentParsesUpto.plain (by kernel_rfl)
#print axioms segmentParses_upto

end Go.Proofs.YtkkmoplijicmpabDoor
