import Derived.Test.YtgmbpagbiakciadDoorBkMk2
import Derived.Test.YtgmbpagbiakciadDoorBkPc2
import Derived.Test.YtgmbpagbiakciadDoorStp
namespace Go.Proofs.YtgmbpagbiakciadDoor
open Go.RowKit
set_option linter.unusedVariables false
set_option linter.unusedSimpArgs false

/-- What lies there while the reference's Make runs. -/
structure MZ (k : Pk) (x : Pc) (w V : World) : Prop where
  ses : V.heap[w.heap.size]? = some (.cells #[.int .i64 k.org, .int .i64 k.num] 26)
  pcl : V.heap[w.heap.size + 1]? = some (.cells (pclC k) 28)
  pc : V.heap[w.heap.size + 2]? = some (.cells (pcC x) 46)
  seg : V.heap[w.heap.size + 3]? = some zsO
  bel : Below w.heap.size w V
theorem MZ.size {k : Pk} {x : Pc} {w V : World} (h : MZ k x w V) : w.heap.size + 3 < V.heap.size := (Array.getElem?_eq_some_iff.mp h.seg).1
theorem MZ.below {k : Pk} {x : Pc} {w V V' : World} (h : MZ k x w V) (hb : Below V.heap.size V V') : MZ k x w V' := by
  have := h.size
  exact ⟨(hb.block _ (by omega)).trans h.ses, (hb.block _ (by omega)).trans h.pcl, (hb.block _ (by omega)).trans h.pc, (hb.block _ (by omega)).trans h.seg, h.bel.trans (hb.mono h.bel.size)⟩
theorem mz_start (k : Pk) (x : Pc) (w : World) : MZ k x w (W4 k x w) := by
  have e0 := heap_alloc_new' w (.cells #[.int .i64 k.org, .int .i64 k.num] 26)
  have e1 := heap_alloc_new' (w.alloc (.cells #[.int .i64 k.org, .int .i64 k.num] 26)) (.cells (pclC k) 28)
  have e2 := heap_alloc_new' ((w.alloc (.cells #[.int .i64 k.org, .int .i64 k.num] 26)).alloc (.cells (pclC k) 28)) (.cells (pcC x) 46)
  have e3 := heap_alloc_new' (((w.alloc (.cells #[.int .i64 k.org, .int .i64 k.num] 26)).alloc (.cells (pclC k) 28)).alloc (.cells (pcC x) 46)) zsO
  simp only [World.size_alloc] at e1 e2 e3
  exact ⟨heapA (heapA (heapA e0 _) _) _, heapA (heapA e1 _) _, heapA e2 _, e3, ((((Below.refl _ _).alloc (Nat.le_refl _) _).alloc (by simp) _).alloc (by simp; omega) _).alloc (by simp; omega) _⟩
theorem cell_b4 {W W' : World} {p : Addr} {v : Value} (h : W.cell? p = some v) (hb : Below W.heap.size W W') : W'.cell? p = some v := (hb.cell (World.block_lt_of_cell? W p h)).trans h
theorem cell_g4 {W W' : World} {p : Addr} {v : Value} {g : Nat} (h : W.cell? p = some v) (hg : W.grownBy W' (some g)) (hp : p.block ≠ g) : W'.cell? p = some v := by
  have h1 := hg.block p.block (World.block_lt_of_cell? W p h) (by simpa using hp)
  simp only [World.cell?] at h ⊢
  rw [h1]
  exact h
theorem hid4 {p : Prop} (h : p) : Hid p := h
theorem own0 {W : World} {base : Nat} (hb : base ≤ W.heap.size) : (W.alloc (.cells #[] 5)).ownsRow base 5 1 (.slice (some ⟨W.heap.size, 0, none⟩) 0 0) 0 [] :=
  ⟨rfl, .inr ⟨W.heap.size, 0, #[], rfl, hb, heap_alloc_new' _ _, Nat.le_refl _, by unfold maxLen; omega, rfl, rfl⟩⟩

theorem own_sl4 {w : World} {base n : Nat} {v : Value} {xs : List Value} (h : w.ownsRow base 5 1 v n xs) : ∃ a c, v = .slice a n c := by
  obtain ⟨_, ⟨rfl, rfl⟩ | ⟨g, cap, cur, rfl, _⟩⟩ := h
  · exact ⟨none, 0, rfl⟩
  · exact ⟨_, cap, rfl⟩
attribute [local go_sem ↓] wp_store_whole
attribute [local go_sem] pBlk_ptr pAgg_agg
set_option maxRecDepth 100000 in
set_option maxHeartbeats 8000000 in
theorem make2_any (k : Pk) (x : Pc) (a : Option Addr) (zs : List Int) (len cap : Nat) (w : World) (hl : zs.length = len) (hlc : len ≤ cap) (hc : Lies .u8 w a zs) (hn : a = none → len = 0 ∧ cap = 0) :
    Calls Tryd.prog 20 #[.agg #[.int .i64 k.org, .int .i64 k.num], .agg (pclC k), .agg (pcC x), .slice a len cap] w (MkPost (mk k x zs) w) := by
  obtain ⟨i0, hi, hz0, hz1, hz2⟩ := info_parts Tryd.info_u8
  have HS : Hid (MZ k x w (W4 k x w)) := mz_start k x w
  have HW4 : Hid (Below w.heap.size w (W4 k x w)) := HS.out.bel
  have HL : Hid (zs.length = len) := hl
  have HC : Hid (∀ V, Below w.heap.size w V → Lies .u8 V a zs) := fun V hV => hc.below hV
  have HM : Hid (mk k x zs = if 65536 < zs.length then (sg0, 2) else if sesB k = false then (sg0, 1) else if pclB k = false then (sg0, 40) else if pieceB k x = false then (sg0, 40) else if (zs.length : Int) < x.to then (sg0, 1) else (sgP k x (dat zs x), 0)) := rfl
  have HPP : Hid (pieceB k x = true → 0 ≤ x.frm ∧ x.frm < x.to) := fun h => by have := (pieceB_iff k x).mp h; exact ⟨this.1, this.2.1⟩
  have HPE : Hid (pclB k = true → pc2B k x = pieceB k x) := fun h => pc2B_eq x (by have := of_decide_eq_true h; omega)
  have hse := session2_any k
  have hpa := parcel2_any k
  have hpi := piece2_any k x
  generalize mk k x zs = R at *
  rw [HL.out] at HM
  clear hl hc
  go_enter Tryd.func20, Tryd.ntmps20
  by_cases hlong : 65536 < len
  · have hl' : (65536 : Int) < (len : Int) := by omega
    have HR : Hid (R = (sg0, 2)) := by unfold Hid; rw [HM.out, if_pos hlong]
    clear hse hpa hpi HS HM
    go_wp2
    refine bodyPost_ret (v := .tuple #[.agg #[.int .i64 0, .int .i64 0, .int .i64 0, .slice none 0 0, .slice none 0 0, .int .i64 0, .int .i64 0, .slice none 0 0, .int .i64 0, .int .i64 0, .int .i64 0, .int .i64 0, .slice none 0 0, .int .i64 0], .int .i64 2]) (by simp [results, Tryd.results20, go_sem]) rfl ?_
    exact mk_nil HR.out HW4.out
  have hl' : ¬ (65536 : Int) < (len : Int) := by omega
  rw [if_neg hlong] at HM
  obtain ⟨q1, h1⟩ : ∃ q, sesB k = q := ⟨_, rfl⟩
  obtain ⟨q2, h2⟩ : ∃ q, pclB k = q := ⟨_, rfl⟩
  obtain ⟨q3, h3⟩ : ∃ q, pieceB k x = q := ⟨_, rfl⟩
  obtain ⟨q4, h4⟩ : ∃ q, pc2B k x = q := ⟨_, rfl⟩
  rw [h1] at hse HM
  rw [h2] at hpa HM HPE
  rw [h3] at HM HPP HPE
  rw [h4] at hpi HPE
  clear h1 h2 h3 h4
  go_wp2_with fail
  refine (hse _).mono ?_
  rintro e w1 ⟨rfl, hb1⟩
  have H1 : Hid (MZ k x w w1) := HS.out.below hb1
  clear hse hb1 HS
  cases q1 with
  | false =>
    clear hpa hpi
    have HR : Hid (R = (sg0, 1)) := by unfold Hid; rw [HM.out, if_pos rfl]
    have HZ2 : Hid (w1.heap[w.heap.size + 3]? = some zsO) := H1.out.seg
    have HZ3 : Hid ((w1.setRow (w.heap.size + 3) #[.int .i64 0, .int .i64 0, .int .i64 0, .slice none 0 0, .slice none 0 0, .int .i64 0, .int .i64 0, .slice none 0 0, .int .i64 0, .int .i64 0, .int .i64 0, .int .i64 0, .slice none 0 0, .int .i64 0]).heap[w.heap.size + 3]? = some zsO) := setRow_heap _ _ _ _ _ _ HZ2.out
    clear HM
    go_wp2_with (refine wpList_store_row rfl 53 _ _ rfl (w.heap.size + 3) _ rfl rfl 53 _ HZ2.out size_sgm rfl (by simp [Value.oneCell']) ?_)
    have hlv := fun j => cell_of_row _ (w.heap.size + 3) j _ _ _ HZ3.out
    refine bodyPost_ret (v := .tuple #[.agg #[.int .i64 0, .int .i64 0, .int .i64 0, .slice none 0 0, .slice none 0 0, .int .i64 0, .int .i64 0, .slice none 0 0, .int .i64 0, .int .i64 0, .int .i64 0, .int .i64 0, .slice none 0 0, .int .i64 0], .int .i64 1]) (by simp [results, Tryd.results20, go_sem, hlv]) rfl ?_
    exact mk_nil HR.out (below_setRow H1.out.bel (by omega) _)
  | true =>
    rw [if_neg (by simp)] at HM
    obtain ⟨b0, b1, b2, b3, b4, _⟩ := box5 H1.out.pcl
    go_upto_region 7 with (go_at_call 38; refine (hpa _).mono ?_; rintro e w2 ⟨rfl, hb2⟩)
    have H2 : Hid (MZ k x w w2) := H1.out.below hb2
    clear hpa hb2 H1 b0 b1 b2 b3 b4
    obtain ⟨b0, b1, b2, b3, b4, _⟩ := box5 H2.out.pcl
    obtain ⟨c0, c1, c2, c3, c4, _⟩ := box5 H2.out.pc
    go_upto_region 8 with (go_at_call 49; refine (hpi _).mono ?_; rintro e w3 ⟨rfl, hb3⟩)
    have H3 : Hid (MZ k x w w3) := H2.out.below hb3
    clear hpi hb3 H2 b0 b1 b2 b3 b4 c0 c1 c2 c3 c4
    cases q2 with
    | false =>
      have HR : Hid (R = (sg0, 40)) := by unfold Hid; rw [HM.out, if_pos rfl]
      have HZ2 : Hid (w3.heap[w.heap.size + 3]? = some zsO) := H3.out.seg
      have HZ3 : Hid ((w3.setRow (w.heap.size + 3) #[.int .i64 0, .int .i64 0, .int .i64 0, .slice none 0 0, .slice none 0 0, .int .i64 0, .int .i64 0, .slice none 0 0, .int .i64 0, .int .i64 0, .int .i64 0, .int .i64 0, .slice none 0 0, .int .i64 0]).heap[w.heap.size + 3]? = some zsO) := setRow_heap _ _ _ _ _ _ HZ2.out
      clear HM
      go_wp2_with (refine wpList_store_row rfl 53 _ _ rfl (w.heap.size + 3) _ rfl rfl 53 _ HZ2.out size_sgm rfl (by simp [Value.oneCell']) ?_)
      have hlv := fun j => cell_of_row _ (w.heap.size + 3) j _ _ _ HZ3.out
      refine bodyPost_ret (v := .tuple #[.agg #[.int .i64 0, .int .i64 0, .int .i64 0, .slice none 0 0, .slice none 0 0, .int .i64 0, .int .i64 0, .slice none 0 0, .int .i64 0, .int .i64 0, .int .i64 0, .int .i64 0, .slice none 0 0, .int .i64 0], .int .i64 40]) (by simp [results, Tryd.results20, go_sem, hlv]) rfl ?_
      exact mk_nil HR.out (below_setRow H3.out.bel (by omega) _)
    | true =>
      rw [if_neg (by simp)] at HM
      obtain rfl : q4 = q3 := HPE.out rfl
      clear HPE
      cases q4 with
      | false =>
        have HR : Hid (R = (sg0, 40)) := by unfold Hid; rw [HM.out, if_pos rfl]
        have HZ2 : Hid (w3.heap[w.heap.size + 3]? = some zsO) := H3.out.seg
        have HZ3 : Hid ((w3.setRow (w.heap.size + 3) #[.int .i64 0, .int .i64 0, .int .i64 0, .slice none 0 0, .slice none 0 0, .int .i64 0, .int .i64 0, .slice none 0 0, .int .i64 0, .int .i64 0, .int .i64 0, .int .i64 0, .slice none 0 0, .int .i64 0]).heap[w.heap.size + 3]? = some zsO) := setRow_heap _ _ _ _ _ _ HZ2.out
        clear HM
        go_wp2_with (refine wpList_store_row rfl 53 _ _ rfl (w.heap.size + 3) _ rfl rfl 53 _ HZ2.out size_sgm rfl (by simp [Value.oneCell']) ?_)
        have hlv := fun j => cell_of_row _ (w.heap.size + 3) j _ _ _ HZ3.out
        refine bodyPost_ret (v := .tuple #[.agg #[.int .i64 0, .int .i64 0, .int .i64 0, .slice none 0 0, .slice none 0 0, .int .i64 0, .int .i64 0, .slice none 0 0, .int .i64 0, .int .i64 0, .int .i64 0, .int .i64 0, .slice none 0 0, .int .i64 0], .int .i64 40]) (by simp [results, Tryd.results20, go_sem, hlv]) rfl ?_
        exact mk_nil HR.out (below_setRow H3.out.bel (by omega) _)
      | true =>
        rw [if_neg (by simp)] at HM
        obtain ⟨hf0, hft⟩ := HPP.out rfl
        obtain ⟨_, _, c2, _⟩ := box5 H3.out.pc
        by_cases hsh : (len : Int) < x.to
        · rw [if_pos hsh] at HM
          have HR : Hid (R = (sg0, 1)) := by unfold Hid; rw [HM.out]
          have HZ2 : Hid (w3.heap[w.heap.size + 3]? = some zsO) := H3.out.seg
          have HZ3 : Hid ((w3.setRow (w.heap.size + 3) #[.int .i64 0, .int .i64 0, .int .i64 0, .slice none 0 0, .slice none 0 0, .int .i64 0, .int .i64 0, .slice none 0 0, .int .i64 0, .int .i64 0, .int .i64 0, .int .i64 0, .slice none 0 0, .int .i64 0]).heap[w.heap.size + 3]? = some zsO) := setRow_heap _ _ _ _ _ _ HZ2.out
          clear HM
          go_wp2_with (refine wpList_store_row rfl 53 _ _ rfl (w.heap.size + 3) _ rfl rfl 53 _ HZ2.out size_sgm rfl (by simp [Value.oneCell']) ?_)
          have hlv := fun j => cell_of_row _ (w.heap.size + 3) j _ _ _ HZ3.out
          refine bodyPost_ret (v := .tuple #[.agg #[.int .i64 0, .int .i64 0, .int .i64 0, .slice none 0 0, .slice none 0 0, .int .i64 0, .int .i64 0, .slice none 0 0, .int .i64 0, .int .i64 0, .int .i64 0, .int .i64 0, .slice none 0 0, .int .i64 0], .int .i64 1]) (by simp [results, Tryd.results20, go_sem, hlv]) rfl ?_
          exact mk_nil HR.out (below_setRow H3.out.bel (by omega) _)
        · rw [if_neg hsh] at HM
          obtain ⟨ty, frm, tt, ck, rp⟩ := x
          simp only at hf0 hft hsh c2
          obtain ⟨F, rfl⟩ := Int.eq_ofNat_of_zero_le hf0
          obtain ⟨T, rfl⟩ := Int.eq_ofNat_of_zero_le (show 0 ≤ tt by omega)
          have hFT : F < T := by omega
          have hTl : T ≤ len := by omega
          obtain ⟨G, off, hga, hgc⟩ : ∃ G off, a = some ⟨G, off, none⟩ ∧ ∀ i, i < zs.length → w.cell? ⟨G, off + i, none⟩ = some (.int .u8 (zs.getD i 0)) := by
            rcases HC.out w (Below.refl _ _) with h0 | ⟨b, off, ha, h⟩
            · have := HL.out; rw [h0] at this; simp at this; omega
            · exact ⟨b, off, ha, h⟩
          subst hga
          have HDL : Hid ((dat zs ⟨ty, (F : Int), (T : Int), ck, rp⟩).length = T - F) := by
            unfold Hid dat; simp only [List.length_take, List.length_drop, HL.out]; omega
          have HNV : Hid (((dat zs ⟨ty, (F : Int), (T : Int), ck, rp⟩).map (Value.int .u8)).length = (T - F) * 1 ∧ ∀ u ∈ (dat zs ⟨ty, (F : Int), (T : Int), ck, rp⟩).map (Value.int .u8), u.oneCell' = true) := ⟨by rw [List.length_map, HDL.out, Nat.mul_one], fun u hu => by obtain ⟨y, _, rfl⟩ := List.mem_map.mp hu; rfl⟩
          have HNW : Hid (∀ V, Below w.heap.size w V → ∀ j u, ((dat zs ⟨ty, (F : Int), (T : Int), ck, rp⟩).map (Value.int .u8))[j]? = some u → V.cell? ((⟨G, off + F, none⟩ : Addr).add j) = some u) := fun V hV j u hj => by
            have hj' : j < T - F := by have := (List.getElem?_eq_some_iff.mp hj).1; rw [List.length_map, HDL.out] at this; exact this
            rw [show (⟨G, off + F, none⟩ : Addr).add j = ⟨G, off + (F + j), none⟩ from by unfold Addr.add; split <;> simp_all; omega]
            have h1 : V.cell? ⟨G, off + (F + j), none⟩ = some (.int .u8 (zs.getD (F + j) 0)) := (hV.cell (p := ⟨G, off + (F + j), none⟩) (World.block_lt_of_cell? w ⟨G, off + (F + j), none⟩ (hgc (F + j) (by have := HL.out; omega)))).trans (hgc (F + j) (by have := HL.out; omega))
            rw [h1, ← hj]
            rw [List.getElem?_map]
            unfold dat
            simp only [List.getElem?_take, List.getElem?_drop, Int.toNat_natCast]
            rw [if_pos (by omega), List.getElem?_eq_getElem (by have := HL.out; omega), List.getD_eq_getElem?_getD, List.getElem?_eq_getElem (by have := HL.out; omega)]
            rfl
          have hiF : (0 : Int) ≤ (F : Int) := by omega
          have hiT : (F : Int) ≤ (T : Int) := by omega
          have hiC : (T : Int) ≤ (cap : Int) := by omega
          have hcf : ¬ cap = F := by omega
          have hsz3 := H3.out.size
          obtain ⟨b0, _⟩ := box5 H3.out.pcl
          obtain ⟨c0, c1, _, c3, c4, _⟩ := box5 H3.out.pc
          have s0 : w3.cell? ⟨w.heap.size, 0, none⟩ = some (.int .i64 k.org) := cell_of_row _ _ 0 _ _ _ H3.out.ses
          have s1 : w3.cell? ⟨w.heap.size, 1, none⟩ = some (.int .i64 k.num) := cell_of_row _ _ 1 _ _ _ H3.out.ses
          have hbe : Below w3.heap.size w3 (w3.alloc (.cells #[] 5)) := (Below.refl _ _).alloc (Nat.le_refl _) _
          have t0 := cell_b4 s0 hbe
          have t1 := cell_b4 s1 hbe
          have y0 := cell_b4 b0 hbe
          have x0 := cell_b4 c0 hbe
          have x1 := cell_b4 c1 hbe
          have x2 := cell_b4 c2 hbe
          have x3 := cell_b4 c3 hbe
          have x4 := cell_b4 c4 hbe
          have HBE : Hid (Below w.heap.size w (w3.alloc (.cells #[] 5)).drew) := (H3.out.bel.alloc H3.out.bel.size _).drew
          have HOW : Hid ((w3.alloc (.cells #[] 5)).drew.ownsRow (w.heap.size + 4) 5 1 (.slice (some ⟨w3.heap.size, 0, none⟩) 0 0) 0 []) := (own0 (W := w3) (by omega)).drew
          have HZB : Hid ((w3.alloc (.cells #[] 5)).drew.heap[w.heap.size + 1 + 1 + 1]? = some zsO) := (hbe.block _ (by omega)).trans H3.out.seg
          clear hbe
          go_upto_region 12 with fail
          go_region_held3 (fun V => V.cell? ⟨w.heap.size, 0, none⟩ = some (.int .i64 k.org) ∧ V.cell? ⟨w.heap.size, 1, none⟩ = some (.int .i64 k.num) ∧ V.cell? ⟨w.heap.size + 1, 0, none⟩ = some (.int .i64 k.srv) ∧ V.cell? ⟨w.heap.size + 1 + 1, 0, none⟩ = some (.int .i64 ty) ∧ V.cell? ⟨w.heap.size + 1 + 1, 1, none⟩ = some (.int .i64 F) ∧ V.cell? ⟨w.heap.size + 1 + 1, 2, none⟩ = some (.int .i64 T) ∧ V.cell? ⟨w.heap.size + 1 + 1, 3, none⟩ = some (.int .i64 ck) ∧ V.cell? ⟨w.heap.size + 1 + 1, 4, none⟩ = some (.int .i64 rp))
            (first | exact ⟨s0, s1, b0, c0, c1, c2, c3, c4⟩ | exact ⟨t0, t1, y0, x0, x1, x2, x3, x4⟩ | exact ⟨l0, l1, l2, l3, l4, l5, l6, l7⟩ | exact HRW.out)
            (first
            | (refine step_append_at rfl (.tmp 47) (.tmp 53) 47 rfl (w.heap.size + 4) 5 i0 (.int .u8 0) 1 1 Tryd.underlying47 hi hz0 hz1 hz2 rfl (by decide) (.slice (some ⟨w3.heap.size, 0, none⟩) 0 0) 0 [] (by first | rfl | simp [Act.eval, Act.put]) HOW.out ⟨G, off + F, none⟩ (T - F) (cap - F) ((dat zs ⟨ty, (F : Int), (T : Int), ck, rp⟩).map (Value.int .u8)) (by first | rfl | simp [Act.eval, Act.put]) HNV.out.1 (HNW.out _ HBE.out) HNV.out.2 (by unfold maxLen; omega) (by omega) (by simp; omega) ?_
               intro v4 w4 ho4 hg4 ht4
               rw [Nat.zero_add, List.nil_append] at ho4
               obtain ⟨ad, cd, rfl⟩ := own_sl4 ho4
               have HO4 : Hid (w4.ownsRow (w.heap.size + 4) 5 1 (.slice ad (T - F) cd) (T - F) ((dat zs ⟨ty, (F : Int), (T : Int), ck, rp⟩).map (Value.int .u8))) := ho4
               have HB4 : Hid (Below w.heap.size w w4) := HBE.out.grown hg4 HBE.out.size (by simp [Value.ownBlock]; omega)
               have hz4 : w4.heap[w.heap.size + 1 + 1 + 1]? = some zsO := (hg4.block _ (by simp; omega) (by simp [Value.ownBlock]; omega)).trans HZB.out
               have HZ4 : Hid (w4.heap[w.heap.size + 1 + 1 + 1]? = some zsO) := hz4
               have hst : Storable Tryd.prog 53 w4 (.pointer (some ⟨w.heap.size + 1 + 1 + 1, 0, none⟩)) (.agg #[.int .i64 ty, .int .i64 k.org, .int .i64 k.num, .slice none 0 0, .slice none 0 0, .int .i64 k.srv, .int .i64 F, .slice ad (T - F) cd, .int .i64 ck, .int .i64 rp, .int .i64 0, .int .i64 0, .slice none 0 0, .int .i64 0]) := ⟨_, _, _, _, rfl, rfl, hz4, rfl, size_sgm, (by simp [Value.oneCell'])⟩
               have hg5 : (w3.alloc (.cells #[] 5)).drew.grownBy w4 (some w3.heap.size) := hg4
               have l0 := cell_g4 (W := (w3.alloc (.cells #[] 5)).drew) t0 hg5 (by simp; omega)
               have l1 := cell_g4 (W := (w3.alloc (.cells #[] 5)).drew) t1 hg5 (by simp; omega)
               have l2 := cell_g4 (W := (w3.alloc (.cells #[] 5)).drew) y0 hg5 (by simp; omega)
               have l3 := cell_g4 (W := (w3.alloc (.cells #[] 5)).drew) x0 hg5 (by simp; omega)
               have l4 := cell_g4 (W := (w3.alloc (.cells #[] 5)).drew) x1 hg5 (by simp; omega)
               have l5 := cell_g4 (W := (w3.alloc (.cells #[] 5)).drew) x2 hg5 (by simp; omega)
               have l6 := cell_g4 (W := (w3.alloc (.cells #[] 5)).drew) x3 hg5 (by simp; omega)
               have l7 := cell_g4 (W := (w3.alloc (.cells #[] 5)).drew) x4 hg5 (by simp; omega)
               have hg6 := grown_row w4 (w.heap.size + 1 + 1 + 1) #[.int .i64 ty, .int .i64 k.org, .int .i64 k.num, .slice none 0 0, .slice none 0 0, .int .i64 k.srv, .int .i64 F, .slice ad (T - F) cd, .int .i64 ck, .int .i64 rp, .int .i64 0, .int .i64 0, .slice none 0 0, .int .i64 0]
               have HRW := hid4 (show (w4.setRow (w.heap.size + 1 + 1 + 1) #[.int .i64 ty, .int .i64 k.org, .int .i64 k.num, .slice none 0 0, .slice none 0 0, .int .i64 k.srv, .int .i64 F, .slice ad (T - F) cd, .int .i64 ck, .int .i64 rp, .int .i64 0, .int .i64 0, .slice none 0 0, .int .i64 0]).cell? ⟨w.heap.size, 0, none⟩ = some (.int .i64 k.org) ∧ (w4.setRow (w.heap.size + 1 + 1 + 1) #[.int .i64 ty, .int .i64 k.org, .int .i64 k.num, .slice none 0 0, .slice none 0 0, .int .i64 k.srv, .int .i64 F, .slice ad (T - F) cd, .int .i64 ck, .int .i64 rp, .int .i64 0, .int .i64 0, .slice none 0 0, .int .i64 0]).cell? ⟨w.heap.size, 1, none⟩ = some (.int .i64 k.num) ∧ (w4.setRow (w.heap.size + 1 + 1 + 1) #[.int .i64 ty, .int .i64 k.org, .int .i64 k.num, .slice none 0 0, .slice none 0 0, .int .i64 k.srv, .int .i64 F, .slice ad (T - F) cd, .int .i64 ck, .int .i64 rp, .int .i64 0, .int .i64 0, .slice none 0 0, .int .i64 0]).cell? ⟨w.heap.size + 1, 0, none⟩ = some (.int .i64 k.srv) ∧ (w4.setRow (w.heap.size + 1 + 1 + 1) #[.int .i64 ty, .int .i64 k.org, .int .i64 k.num, .slice none 0 0, .slice none 0 0, .int .i64 k.srv, .int .i64 F, .slice ad (T - F) cd, .int .i64 ck, .int .i64 rp, .int .i64 0, .int .i64 0, .slice none 0 0, .int .i64 0]).cell? ⟨w.heap.size + 1 + 1, 0, none⟩ = some (.int .i64 ty) ∧ (w4.setRow (w.heap.size + 1 + 1 + 1) #[.int .i64 ty, .int .i64 k.org, .int .i64 k.num, .slice none 0 0, .slice none 0 0, .int .i64 k.srv, .int .i64 F, .slice ad (T - F) cd, .int .i64 ck, .int .i64 rp, .int .i64 0, .int .i64 0, .slice none 0 0, .int .i64 0]).cell? ⟨w.heap.size + 1 + 1, 1, none⟩ = some (.int .i64 F) ∧ (w4.setRow (w.heap.size + 1 + 1 + 1) #[.int .i64 ty, .int .i64 k.org, .int .i64 k.num, .slice none 0 0, .slice none 0 0, .int .i64 k.srv, .int .i64 F, .slice ad (T - F) cd, .int .i64 ck, .int .i64 rp, .int .i64 0, .int .i64 0, .slice none 0 0, .int .i64 0]).cell? ⟨w.heap.size + 1 + 1, 2, none⟩ = some (.int .i64 T) ∧ (w4.setRow (w.heap.size + 1 + 1 + 1) #[.int .i64 ty, .int .i64 k.org, .int .i64 k.num, .slice none 0 0, .slice none 0 0, .int .i64 k.srv, .int .i64 F, .slice ad (T - F) cd, .int .i64 ck, .int .i64 rp, .int .i64 0, .int .i64 0, .slice none 0 0, .int .i64 0]).cell? ⟨w.heap.size + 1 + 1, 3, none⟩ = some (.int .i64 ck) ∧ (w4.setRow (w.heap.size + 1 + 1 + 1) #[.int .i64 ty, .int .i64 k.org, .int .i64 k.num, .slice none 0 0, .slice none 0 0, .int .i64 k.srv, .int .i64 F, .slice ad (T - F) cd, .int .i64 ck, .int .i64 rp, .int .i64 0, .int .i64 0, .slice none 0 0, .int .i64 0]).cell? ⟨w.heap.size + 1 + 1, 4, none⟩ = some (.int .i64 rp) from ⟨cell_g4 l0 hg6 (by simp <;> omega), cell_g4 l1 hg6 (by simp <;> omega), cell_g4 l2 hg6 (by simp <;> omega), cell_g4 l3 hg6 (by simp <;> omega), cell_g4 l4 hg6 (by simp <;> omega), cell_g4 l5 hg6 (by simp <;> omega), cell_g4 l6 hg6 (by simp <;> omega), cell_g4 l7 hg6 (by simp <;> omega)⟩)
               clear ho4 hg4 ht4 hz4 hg5 hg6))
          all_goals (
            have HZ6 : Hid ((w4.setRow (w.heap.size + 1 + 1 + 1) #[.int .i64 ty, .int .i64 k.org, .int .i64 k.num, .slice none 0 0, .slice none 0 0, .int .i64 k.srv, .int .i64 F, .slice ad (T - F) cd, .int .i64 ck, .int .i64 rp, .int .i64 0, .int .i64 0, .slice none 0 0, .int .i64 0]).heap[w.heap.size + 1 + 1 + 1]? = some (.cells #[.int .i64 ty, .int .i64 k.org, .int .i64 k.num, .slice none 0 0, .slice none 0 0, .int .i64 k.srv, .int .i64 F, .slice ad (T - F) cd, .int .i64 ck, .int .i64 rp, .int .i64 0, .int .i64 0, .slice none 0 0, .int .i64 0] 53)) := setRow_heap _ _ _ _ _ _ HZ4.out
            clear hst l0 l1 l2 l3 l4 l5 l6 l7 t0 t1 y0 x0 x1 x2 x3 x4 c0 c1 c2 c3 c4 b0 s0 s1
            go_wp2
            have hlv := fun j => cell_of_row _ (w.heap.size + 1 + 1 + 1) j _ _ _ HZ6.out
            refine bodyPost_ret (v := .tuple #[.agg #[.int .i64 ty, .int .i64 k.org, .int .i64 k.num, .slice none 0 0, .slice none 0 0, .int .i64 k.srv, .int .i64 F, .slice ad (T - F) cd, .int .i64 ck, .int .i64 rp, .int .i64 0, .int .i64 0, .slice none 0 0, .int .i64 0], .int .i64 0]) (by simp [results, Tryd.results20, go_sem, hlv]) rfl ?_
            have hR := HM.out
            subst hR
            refine ⟨ad, cd, ?_, ?_, below_setRow HB4.out (by omega) _⟩
            · show _ = Ending.returned (.tuple #[.agg #[.int .i64 ty, .int .i64 k.org, .int .i64 k.num, .slice none 0 0, .slice none 0 0, .int .i64 k.srv, .int .i64 F, .slice ad (dat zs ⟨ty, (F : Int), (T : Int), ck, rp⟩).length cd, .int .i64 ck, .int .i64 rp, .int .i64 0, .int .i64 0, .slice none 0 0, .int .i64 0], .int .i64 0])
              rw [HDL.out]
            · show World.ownsRow _ _ _ 1 (.slice ad (dat zs ⟨ty, (F : Int), (T : Int), ck, rp⟩).length cd) (dat zs ⟨ty, (F : Int), (T : Int), ck, rp⟩).length _
              rw [HDL.out]
              exact own_base (own_keep HO4.out (grown_row _ _ _) (fun j hj e => by have := (World.ownsRow.lt HO4.out j hj).1; simp at e; omega)) (by omega))
end Go.Proofs.YtgmbpagbiakciadDoor
