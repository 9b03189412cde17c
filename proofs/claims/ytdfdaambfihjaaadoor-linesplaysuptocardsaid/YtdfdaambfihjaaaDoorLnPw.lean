import Derived.Test.YtdfdaambfihjaaaDoorLnPm
namespace Go.Proofs.YtdfdaambfihjaaaDoor.L
open Go.RowKit
set_option linter.unusedVariables false
set_option linter.unusedSimpArgs false
def StorM (P : Program) (ty : TypeId) (w : World) (vx vy : Value) : Prop := ∃ (b o : Nat) (cells : Array Value), vx = .pointer (some ⟨b, o, none⟩) ∧ vy = .agg cells ∧ w.there b o cells.size ∧ (P.info? ty).map (·.size) = some cells.size ∧ cells.all (·.oneCell') = true
def pOffM : Value → Nat
  | .pointer (some a) => a.off
  | _ => 0
theorem pOffM_ptr (a : Addr) : pOffM (.pointer (some a)) = a.off := rfl
def setM (w : World) (b o : Nat) (c : Array Value) : World := w.setCells b o c.toList
/-- A store of a whole struct into the midst of a row: one step. -/
theorem wp_storeM {P : Program} {ty tp : TypeId} {x y : Operand} {d : Option Tmp} {ps : String} {af : Array Edge} {a : Act} {w : World} {K : Act → World → Prop} {Q : Exit → Act → World → Prop}
    (hs : StorM P ty w (a.eval x) (a.eval y)) :
    Oper.wp P { dst := d, op := .store ty x y, type := tp, pos := ps, after := af, guard := none } a w K Q = K (a.put d undef) (setM w (pBlk2 (a.eval x)) (pOffM (a.eval x)) (pAgg2 (a.eval y))) := by
  obtain ⟨b, o, cells, hx, hy, ht, hi, h1⟩ := hs
  have hr := run_storeVar_mid (P := P) w b o ty cells ht hi h1
  unfold Oper.wp execOp
  simp only [hx, hy, pBlk2_ptr, pOffM_ptr, pAgg2_agg, Instr.storeAt, Instr.sureAddr, Sem.run_bind, Sem.run_pure, Result.andThen_ok, hr]
  rfl
attribute [local go_sem ↓] wp_store2 wp_storeM
attribute [local go_sem] pBlk2_ptr pAgg2_agg pOffM_ptr

set_option maxRecDepth 100000 in
set_option maxHeartbeats 32000000 in
theorem plays_walk (w : World) (one two : Int) (v0 : Value) (L : List St) (hL : Sc w v0 L) (aL : ∀ x ∈ L, SAt w x.y ∧ -9223372036854775808 ≤ x.n ∧ x.n ≤ 9223372036854775807) (n : Nat) (hn : L.length = n) (hnb : n ≤ 1048576) (hT : Tab w) :
    Calls Tryd.prog 3 #[.int .i64 one, .int .i64 two, v0] w fun e w' => e = .returned (.bool true) ∧ Below w.heap.size w w' := by
  obtain ⟨i0, hi, hq0, hq1, hq2⟩ := info_parts seg_info
  have h00 : 0 < w.heap.size := World.block_lt_of_cell? w ⟨0, 0, none⟩ (hT 0 (by omega))
  have hAw := awk11_any w hT
  obtain ⟨la, lc, rfl, hL'⟩ := hL
  rw [hn]
  have HA : Hid ((∀ x ∈ L, SAt w x.y ∧ -9223372036854775808 ≤ x.n ∧ x.n ≤ 9223372036854775807) ∧ L.length = n ∧ (L = [] ∨ ∃ g off, la = some ⟨g, off, none⟩ ∧ ∀ i x, L[i]? = some x → ∀ j u, x.L[j]? = some u → w.cell? ⟨g, off + i * 19 + j, none⟩ = some u) ∧ (∀ V, Below w.heap.size w V → Tab V)) := ⟨aL, hn, hL', fun V hV => hT.below hV h00⟩
  clear aL hL' hT hn h00
  go_enter Tryd.func3, Tryd.ntmps3
  go_wp2_with fail
  refine hAw.mono ?_
  rintro e w1 ⟨rfl, b1⟩
  have H1 : Hid (Below w.heap.size w w1) := b1
  have hN1 := newG one w1
  clear hAw b1
  go_wp2_with fail
  refine hN1.mono ?_
  rintro e w2 ⟨rfl, l2, b2⟩
  have H2 : Hid (Lg w2 (w1.heap.size + 1) w1.heap.size one (fun _ => none) 0 0 [] ∧ Below w1.heap.size w1 w2) := ⟨l2, b2⟩
  have hN2 := newG two w2
  clear hN1 l2 b2
  go_wp2_with fail
  refine hN2.mono ?_
  rintro e w3 ⟨rfl, l3, b3⟩
  have H3 : Hid (Lg w3 (w2.heap.size + 1) w2.heap.size two (fun _ => none) 0 0 [] ∧ Below w2.heap.size w2 w3) := ⟨l3, b3⟩
  clear hN2 l3 b3
  obtain ⟨w4, hw4⟩ : ∃ V, w3.alloc (.cells #[.pointer (some ⟨w1.heap.size + 1, 0, none⟩), .pointer (some ⟨w2.heap.size + 1, 0, none⟩)] 24) = V := ⟨_, rfl⟩
  have H4 : Hid (w4 = w3.alloc (.cells #[.pointer (some ⟨w1.heap.size + 1, 0, none⟩), .pointer (some ⟨w2.heap.size + 1, 0, none⟩)] 24)) := hw4.symm
  have hR1 := rnew_any one w4
  go_upto_region 3 with fail
  try rw [hw4]
  clear hw4
  go_wp2_with fail
  refine hR1.mono ?_
  rintro e w5 ⟨rfl, r5, b5⟩
  have H5 : Hid (Rl w5 w4.heap.size one (.slice none 0 0) [] ∧ Below w4.heap.size w4 w5) := ⟨r5, b5⟩
  have hR2 := rnew_any two w5
  clear hR1 r5 b5
  go_wp2_with fail
  refine hR2.mono ?_
  rintro e w6 ⟨rfl, r6, b6⟩
  have H6 : Hid (Rl w6 w5.heap.size two (.slice none 0 0) [] ∧ Below w5.heap.size w5 w6) := ⟨r6, b6⟩
  clear hR2 r6 b6
  obtain ⟨w7, hw7⟩ : ∃ V, w6.alloc (.cells #[.pointer (some ⟨w4.heap.size, 0, none⟩), .pointer (some ⟨w5.heap.size, 0, none⟩)] 27) = V := ⟨_, rfl⟩
  have H7 : Hid (Py w w7 (pl0 w1.heap.size w2.heap.size w4.heap.size w5.heap.size) 0 (X0 (w1.heap.size + 1) w1.heap.size w4.heap.size one (w2.heap.size + 1) w2.heap.size w5.heap.size two) (.slice none 0 0) [] [] (.slice none 0 0) [] w3.heap.size w6.heap.size) := py_start H1.out H2.out.1 H2.out.2 H3.out.1 H3.out.2 H4.out H5.out.1 H5.out.2 H6.out.1 H6.out.2 hw7.symm
  go_upto_region 4 with fail
  try rw [hw7]
  obtain ⟨bl, hbl⟩ : ∃ b, w3.heap.size = b := ⟨_, rfl⟩
  obtain ⟨br, hbr⟩ : ∃ b, w6.heap.size = b := ⟨_, rfl⟩
  rw [hbl, hbr] at H7 ⊢
  obtain ⟨pa, hpa⟩ : ∃ b, w1.heap.size + 1 = b := ⟨_, rfl⟩
  obtain ⟨pb, hpb⟩ : ∃ b, w2.heap.size + 1 = b := ⟨_, rfl⟩
  obtain ⟨ra, hra⟩ : ∃ b, w4.heap.size = b := ⟨_, rfl⟩
  obtain ⟨rb, hrb⟩ : ∃ b, w5.heap.size = b := ⟨_, rfl⟩
  rw [hpa, hpb, hra, hrb] at H7 ⊢
  have c0 : w7.cell? ⟨bl, 0, none⟩ = some (.pointer (some ⟨pa, 0, none⟩)) := (cell_of_row _ _ _ _ _ _ H7.out.lb).trans rfl
  have c1 : w7.cell? ⟨bl, 1, none⟩ = some (.pointer (some ⟨pb, 0, none⟩)) := (cell_of_row _ _ _ _ _ _ H7.out.lb).trans rfl
  have HP : Hid (LI w w7 bl br 0 (.slice none 0 0) (.slice none 0 0)) := li_start H7.out
  clear hw7 hbl hbr hpa hpb hra hrb H1 H2 H3 H4 H5 H6 H7
  go_wp2_with fail
  clear c0 c1
  go_loopw [10, 11, 12, 13, 14, 15, 16, 17, 18, 19, 20, 21, 22, 23, 24, 25, 26] (fun s10 s11 s12 _ _ _ _ _ _ _ _ _ _ _ _ _ _ wr => ∃ (i : Nat) (hvl wvl : Value), i ≤ n ∧ hvl = s10 ∧ wvl = s11 ∧ s12 = .int .i64 (i : Nat) ∧ Hid (LI w wr bl br i hvl wvl)) (fun _ _ s12 _ _ _ _ _ _ _ _ _ _ _ _ _ _ _ => n - (intOf s12).toNat)
  case atStart => exact ⟨0, _, _, by omega, rfl, rfl, rfl, HP⟩
  case round =>
    obtain ⟨i, hvl, wvl, hin, hh, hw, rfl, HI⟩ := hrel
    subst hh
    subst hw
    clear HP
    by_cases hlt : i < n
    · have hlt' : (i : Int) < (n : Int) := by omega
      have h0i : 0 ≤ (i : Int) := by omega
      have hwi : IntKind.i64.wrap ((i : Int) + 1) = (i : Int) + 1 := by rw [IntKind.wrap_i64]; omega
      obtain ⟨x, hx⟩ := get_one L i (by rw [HA.out.2.1]; exact hlt)
      obtain ⟨g, off, hla, sd⟩ : ∃ g off, la = some ⟨g, off, none⟩ ∧ ∀ i x, L[i]? = some x → ∀ j u, x.L[j]? = some u → w.cell? ⟨g, off + i * 19 + j, none⟩ = some u := by
        rcases HA.out.2.2.1 with e | e
        · rw [e] at hx; simp at hx
        · exact e
      subst hla
      obtain ⟨⟨hx0, tx0, hsi⟩, hn1, hn2⟩ := HA.out.1 x (List.mem_of_getElem? hx)
      have hsl := SAt.sl (y := x.y) ⟨hx0, tx0, hsi⟩
      have hbw : Below w.heap.size w wr := by obtain ⟨pl, X, H, Wr, _, h, _⟩ := HI.out; exact h.bw
      have hcl : ∀ j u, x.L[j]? = some u → wr.cell? ⟨g, off + i * 19 + j, none⟩ = some u := fun j u hj => cell_below (sd i x hx j u hj) hbw
      obtain ⟨do', wh, pe, nn, all, ⟨s, hv, tv, dv, cv⟩⟩ := x
      obtain ⟨⟨a1, m1, k1, rfl⟩, ⟨a2, m2, k2, rfl⟩, ⟨a3, m3, k3, rfl⟩, a4, m4, k4, rfl⟩ := hsl
      have hrg0 := hcl
      have HS : Hid (SIn w s (.slice a1 m1 k1) (.slice a2 m2 k2) (.slice a3 m3 k3) (.slice a4 m4 k4) hx0 tx0) := hsi
      clear hcl sd hx hsi hbw
      obtain ⟨W0, hW0⟩ : ∃ V, wr.alloc (.cells z19 39) = V := ⟨_, rfl⟩
      have hst : Stor2 Tryd.prog 39 W0 (.pointer (some ⟨wr.heap.size, 0, none⟩)) (.agg #[.int .i64 do', .int .i64 wh, .int .i64 pe, .int .i64 nn, .bool all, .int .i64 s.typ, .int .i64 s.org, .int .i64 s.num, .slice a1 m1 k1, .slice a2 m2 k2, .int .i64 s.srv, .int .i64 s.off, .slice a3 m3 k3, .int .i64 s.chk, .int .i64 s.rep, .int .i64 s.upp, .int .i64 s.low, .slice a4 m4 k4, .int .i64 s.rsn]) := ⟨wr.heap.size, _, z19, _, rfl, rfl, by rw [← hW0]; exact heap_alloc_new' _ _, rfl, size_st, by simp [Value.oneCell']⟩
      obtain ⟨W1, hW1⟩ : ∃ V, W0.setRow wr.heap.size #[.int .i64 do', .int .i64 wh, .int .i64 pe, .int .i64 nn, .bool all, .int .i64 s.typ, .int .i64 s.org, .int .i64 s.num, .slice a1 m1 k1, .slice a2 m2 k2, .int .i64 s.srv, .int .i64 s.off, .slice a3 m3 k3, .int .i64 s.chk, .int .i64 s.rep, .int .i64 s.upp, .int .i64 s.low, .slice a4 m4 k4, .int .i64 s.rsn] = V := ⟨_, rfl⟩
      have H1 : Hid (Below wr.heap.size wr W1 ∧ W1.heap[wr.heap.size]? = some (.cells #[.int .i64 do', .int .i64 wh, .int .i64 pe, .int .i64 nn, .bool all, .int .i64 s.typ, .int .i64 s.org, .int .i64 s.num, .slice a1 m1 k1, .slice a2 m2 k2, .int .i64 s.srv, .int .i64 s.off, .slice a3 m3 k3, .int .i64 s.chk, .int .i64 s.rep, .int .i64 s.upp, .int .i64 s.low, .slice a4 m4 k4, .int .i64 s.rsn] 39 (0, 0))) := by
        have b0 : Below wr.heap.size wr W0 := by rw [← hW0]; exact (Below.refl _ _).alloc (Nat.le_refl _) _
        have e0 : W0.heap[wr.heap.size]? = some (.cells z19 39 (0, 0)) := by rw [← hW0]; exact heap_alloc_new' _ _
        rw [← hW1]
        exact ⟨bl_setRow2 b0 (Nat.le_refl _) _, setRow_heap _ _ _ _ _ _ e0⟩
      have hrg : wr.rangeAt g (off + i * 19) [.int .i64 do', .int .i64 wh, .int .i64 pe, .int .i64 nn, .bool all, .int .i64 s.typ, .int .i64 s.org, .int .i64 s.num, .slice a1 m1 k1, .slice a2 m2 k2, .int .i64 s.srv, .int .i64 s.off, .slice a3 m3 k3, .int .i64 s.chk, .int .i64 s.rep, .int .i64 s.upp, .int .i64 s.low, .slice a4 m4 k4, .int .i64 s.rsn] := hrg0
      go_upto_region 12 with (first
        | (refine wpList_load_mid rfl 39 _ rfl g (off + i * 19) (by first | rfl | simp [Act.eval]) _ _ hrg Tryd.underlying39 rfl size_st ?_)
        | go_in)
      obtain ⟨B, hB⟩ : ∃ B, wr.heap.size = B := ⟨_, rfl⟩
      rw [hB] at H1
      obtain ⟨kk, hk2, hkb⟩ := and_one wh
      have hk0 : 0 ≤ (kk : Int) := by omega
      have hk1 : (kk : Int) < 2 := by omega
      have b0 : W1.cell? ⟨B, 0, none⟩ = some (.int .i64 do') := (cell_of_row _ _ _ _ _ _ H1.out.2).trans rfl
      have b1 : W1.cell? ⟨B, 1, none⟩ = some (.int .i64 wh) := (cell_of_row _ _ _ _ _ _ H1.out.2).trans rfl
      have HB : Hid (∀ V : World, V.heap[B]? = W1.heap[B]? → V.heap[B]? = some (.cells #[.int .i64 do', .int .i64 wh, .int .i64 pe, .int .i64 nn, .bool all, .int .i64 s.typ, .int .i64 s.org, .int .i64 s.num, .slice a1 m1 k1, .slice a2 m2 k2, .int .i64 s.srv, .int .i64 s.off, .slice a3 m3 k3, .int .i64 s.chk, .int .i64 s.rep, .int .i64 s.upp, .int .i64 s.low, .slice a4 m4 k4, .int .i64 s.rsn] 39 (0, 0))) := fun V hV => hV.trans H1.out.2
      obtain ⟨pl, X, H, Wr, hrel, hpy, hHW, hcnt⟩ := HI.out
      have hpy1 := hpy.below (by have h := H1.out.1; rw [← hB] at h; exact h)
      have HY : Hid (Py w W1 (trash wr pl) i X hvl (H.map Sz.y) H wvl Wr bl br ∧ (trash wr pl B).1 = 7 ∧ (∀ k, k < 2 → RelS (X k)) ∧ H.map (fun z => z.y.s) = Wr.map Sv.s ∧ H.length + (X 0).ws.length + (X 1).ws.length ≤ i ∧ B < W1.heap.size) := ⟨hpy1, by rw [trash_new (by omega)], hrel, hHW, hcnt, (Array.getElem?_eq_some_iff.1 H1.out.2).1⟩
      obtain ⟨pl1, hpl1⟩ : ∃ q, trash wr pl = q := ⟨_, rfl⟩
      rw [hpl1] at HY
      obtain ⟨P, hP⟩ : ∃ q, (X kk).p = q := ⟨_, rfl⟩
      obtain ⟨R, hR⟩ : ∃ q, (X kk).r = q := ⟨_, rfl⟩
      have HPR : Hid ((X kk).p = P ∧ (X kk).r = R) := ⟨hP, hR⟩
      have l1 : W1.cell? ⟨bl, kk, none⟩ = some (.pointer (some ⟨P, 0, none⟩)) := by have h := HY.out.1.cl hk2; rw [hP] at h; exact h
      clear hW0 hW1 hst hrg hrg0 hpy hpy1 hrel hHW hcnt hpl1 H1 hP hR
      go_upto_region 14 with fail
      try rw [hkb]
      clear hkb
      by_cases h1 : do' = 1
      · -- Take
        subst h1
        have hA := HY.out.1.sd kk hk2
        obtain ⟨N, hN⟩ : ∃ N, ((gP (X kk).G pe 3).take nn.toNat).length = N := ⟨_, rfl⟩
        have HN : Hid (((gP (X kk).G pe 3).take nn.toNat).length = N) := hN
        have hd := takeO hA HPR.out.1 (by omega) pe nn hn1 hn2 hN
        have HC1 : Hid (W1.cell? ⟨bl, kk, none⟩ = some (.pointer (some ⟨P, 0, none⟩)) ∧ W1.cell? ⟨B, 2, none⟩ = some (.int .i64 pe) ∧ W1.cell? ⟨B, 3, none⟩ = some (.int .i64 nn)) := ⟨l1, (cell_of_row _ _ _ _ _ _ (HB.out W1 rfl)).trans rfl, (cell_of_row _ _ _ _ _ _ (HB.out W1 rfl)).trans rfl⟩
        have HNF : Hid (¬ FL (X kk).m (X kk).S bl ∧ ¬ FL (X kk).m (X kk).S br ∧ ¬ FL (X kk).m (X kk).S B ∧ (bl ≠ (X kk).r ∧ br ≠ (X kk).r ∧ B ≠ (X kk).r)) := ⟨(HY.out.1.nc hk2).1.1, (HY.out.1.nc hk2).1.2, (HY.out.1.nb HY.out.2.1 hk2).1, fun e => (HY.out.1.nc hk2).2.1 (.inl e), fun e => (HY.out.1.nc hk2).2.2 (.inl e), fun e => (HY.out.1.nb HY.out.2.1 hk2).2 (.inl e)⟩
        have HR1 : Hid (W1.cell? ⟨br, kk, none⟩ = some (.pointer (some ⟨R, 0, none⟩))) := by have h := HY.out.1.cr hk2; rw [HPR.out.2] at h; exact h
        have hNb : N ≤ 3145728 := by
          rw [← hN, List.length_take]
          have h1 := congrArg List.length (gP_s (HY.out.2.2.1 kk hk2) pe 3 (Nat.le_refl _))
          rw [List.length_map, List.length_map] at h1
          have h2 := wcn_fk pe (X kk).ws
          have h3 := wcn_le pe (X kk).ws
          have h4 := hA.few
          simp only [Pf, List.length_append, List.length_nil] at h1
          omega
        clear hA hN
        go_upto_region 22 with fail
        refine Code.wp_mono (fun _ _ _ h => calmL_le h) ?_
        go_region_held3 (fun V => V.cell? ⟨bl, kk, none⟩ = some (.pointer (some ⟨P, 0, none⟩)) ∧ V.cell? ⟨B, 2, none⟩ = some (.int .i64 pe) ∧ V.cell? ⟨B, 3, none⟩ = some (.int .i64 nn))
          (first | exact HC1.out | exact HU1c.out)
          (first
            | (go_at_call 8
               refine hd.mono ?_
               rintro e U1 ⟨oa, oc, rfl, hU⟩
               have HU1 : Hid (TkO W1 U1 (X kk) pe i nn.toNat (.slice oa N oc)) := hU
               have HU1c : Hid (U1.cell? ⟨bl, kk, none⟩ = some (.pointer (some ⟨P, 0, none⟩)) ∧ U1.cell? ⟨B, 2, none⟩ = some (.int .i64 pe) ∧ U1.cell? ⟨B, 3, none⟩ = some (.int .i64 nn)) := ⟨hU.kl.cell HC1.out.1 HNF.out.1, hU.kl.cell HC1.out.2.1 HNF.out.2.2.1, hU.kl.cell HC1.out.2.2 HNF.out.2.2.1⟩
               clear hU))
        simp only [calmL]
        have hA := HY.out.1.sd kk hk2
        have hrd := rtakeO (hA.rlk HU1.out.kl) HPR.out.2 (HY.out.2.2.1 kk hk2) (fun x hx => (hA.sr x hx).2.1) (by have := hA.few; omega) pe nn HN.out
        have HC2 : Hid (U1.cell? ⟨br, kk, none⟩ = some (.pointer (some ⟨R, 0, none⟩)) ∧ U1.cell? ⟨B, 2, none⟩ = some (.int .i64 pe) ∧ U1.cell? ⟨B, 3, none⟩ = some (.int .i64 nn)) := ⟨HU1.out.kl.cell HR1.out HNF.out.2.1, HU1c.out.2⟩
        clear hA hd
        go_upto_region 23 with fail
        refine Code.wp_mono (fun _ _ _ h => calmL_le h) ?_
        go_region_held3 (fun V => V.cell? ⟨br, kk, none⟩ = some (.pointer (some ⟨R, 0, none⟩)) ∧ V.cell? ⟨B, 2, none⟩ = some (.int .i64 pe) ∧ V.cell? ⟨B, 3, none⟩ = some (.int .i64 nn))
          (first | exact HC2.out | exact HU2c.out)
          (first
            | (go_at_call 9
               refine hrd.mono ?_
               rintro e U2 ⟨ob, od, rfl, hU⟩
               have HU2 : Hid (RtO U1 U2 (X kk) pe nn.toNat (.slice ob N od)) := hU
               have HU2c : Hid (U2.cell? ⟨br, kk, none⟩ = some (.pointer (some ⟨R, 0, none⟩)) ∧ U2.cell? ⟨B, 2, none⟩ = some (.int .i64 pe) ∧ U2.cell? ⟨B, 3, none⟩ = some (.int .i64 nn)) := ⟨hU.kl.cell HC2.out.1 HNF.out.2.2.2.2.1, hU.kl.cell HC2.out.2.1 HNF.out.2.2.2.2.2, hU.kl.cell HC2.out.2.2 HNF.out.2.2.2.2.2⟩
               clear hU))
        simp only [calmL]
        obtain ⟨pl3, X2, tz, Y, h2p, htl⟩ := tk_two (B := B) hk2 HY.out.1 HY.out.2.2.1 HY.out.2.2.2.2.1 HU1.out HU2.out
        rw [HN.out] at htl
        have hYl : Y.length = N := by have := congrArg List.length h2p.ss; rw [List.length_map, List.length_map] at this; omega
        have H2 : Hid (Tk2P w U2 pl3 X2 i bl br hvl (H.map Sz.y) (H ++ tz) wvl Wr (.slice oa N oc) (.slice ob N od) tz Y ∧ tz.length = N ∧ Y.length = N) := ⟨h2p, htl, hYl⟩
        obtain ⟨q1, q2, q3, q4, q5⟩ := h2p.sats
        have hsa := sameAll_any U2 (.slice oa N oc) (.slice ob N od) (tz.map Sz.y) Y q4 q5 q3 q1 (fun y hy => (q2 y hy).1) N (by rw [List.length_map]; exact htl) (by omega)
        clear h2p htl hYl q1 q2 q3 q4 q5 hrd b0 b1 l1
        go_wp2_with fail
        refine hsa.mono ?_
        rintro e U3 ⟨rfl, hb3⟩
        obtain ⟨pl4, h3p⟩ := H2.out.1.below hb3
        have H3 : Hid (Tk2P w U3 pl4 X2 i bl br hvl (H.map Sz.y) (H ++ tz) wvl Wr (.slice oa N oc) (.slice ob N od) tz Y) := h3p
        obtain ⟨NH, hNH⟩ : ∃ k, H.length = k := ⟨_, rfl⟩
        have hNHb : NH ≤ 1048576 := by rw [← hNH]; have := HY.out.2.2.2.2.1; omega
        obtain ⟨ha, hc, hhv⟩ := own_sl h3p.py.hr
        rw [List.length_map, hNH] at hhv
        subst hhv
        have HNH : Hid (H.length = NH) := hNH
        have HRh : Hid (U3.ownsRow 0 37 14 (.slice ha NH hc) NH (seg (H.map Sz.y))) := by have h := h3p.py.hr; rw [List.length_map, hNH] at h; exact h
        have HRa : Hid (U3.ownsRow 0 37 14 (.slice oa N oc) N (seg (tz.map Sz.y))) := by have h := h3p.a; rw [H2.out.2.1] at h; exact h
        have HOa : Hid (∀ u ∈ seg (tz.map Sz.y), u.oneCell' = true) := seg_one (fun y hy => by
          obtain ⟨z, hz, rfl⟩ := List.mem_map.mp hy
          exact (SAt.sl (h3p.sats.1 z.y (List.mem_map.mpr ⟨z, hz, rfl⟩))).one)
        clear hsa hb3 h3p hNH
        go_wp2_with (at_builtin; refine wpl_row _ rfl _ _ 30 rfl 0 37 i0 _ 14 176 Tryd.underlying30 hi hq0 hq1 hq2 rfl (by decide) (.slice ha NH hc) NH (seg (H.map Sz.y)) (by first | rfl | simp [Act.eval]) HRh.out (.slice oa N oc) N (seg (tz.map Sz.y)) (by first | rfl | simp [Act.eval]) HRa.out HOa.out (by unfold maxLen; omega) (by omega) (Nat.zero_le _) ?_)
        intro v4 U4 hown4 hgrow4 hat4
        obtain ⟨ha4, hc4, hv4⟩ := own_sl hown4
        subst hv4
        obtain ⟨pl5, h4p⟩ := H3.out.held (hv' := .slice ha4 (NH + N) hc4) (by rw [List.length_map, HNH.out, H2.out.2.1]; exact hown4) hgrow4 hat4
        have H4 : Hid (Tk2P w U4 pl5 X2 i bl br (.slice ha4 (NH + N) hc4) (H.map Sz.y ++ tz.map Sz.y) (H ++ tz) wvl Wr (.slice oa N oc) (.slice ob N od) tz Y) := h4p
        have hcp := copies_any U4 (.slice ob N od) Y h4p.sats.2.2.2.2 h4p.sats.2.1 N H2.out.2.2 (by omega)
        clear hown4 hgrow4 hat4 h4p
        go_wp2_with fail
        refine hcp.mono ?_
        rintro e U5 ⟨cv0, O, Z, rfl, hc5⟩
        obtain ⟨ca, cc, hcv⟩ := own_sl hc5.ow
        rw [hc5.len] at hcv
        subst hcv
        obtain ⟨pl6, h5p, hO5, _⟩ := H4.out.copies hc5
        have H5 : Hid (Tk2P w U5 pl6 X2 i bl br (.slice ha4 (NH + N) hc4) (H.map Sz.y ++ tz.map Sz.y) (H ++ tz) wvl Wr (.slice oa N oc) (.slice ob N od) tz Y ∧ (∀ y ∈ O, RsI U5 pl6 y) ∧ O.length = N ∧ O.map Sv.s = Y.map Sv.s) := ⟨h5p, hO5, hc5.len, by have h := hc5.ss; rw [List.take_of_length_le (by rw [H2.out.2.2]; exact Nat.le_refl _)] at h; exact h⟩
        obtain ⟨NW, hNW⟩ : ∃ k, Wr.length = k := ⟨_, rfl⟩
        have hNWb : NW ≤ 1048576 := by
          rw [← hNW]
          have h1 := congrArg List.length HY.out.2.2.2.1
          rw [List.length_map, List.length_map] at h1
          have := HY.out.2.2.2.2.1
          omega
        obtain ⟨wa, wc, hwv⟩ := own_sl h5p.py.wr'
        rw [hNW] at hwv
        subst hwv
        have HNW : Hid (Wr.length = NW) := hNW
        have HRw : Hid (U5.ownsRow 0 37 14 (.slice wa NW wc) NW (seg Wr)) := by have h := h5p.py.wr'; rw [hNW] at h; exact h
        have HRc : Hid (U5.ownsRow 0 37 14 (.slice ca N cc) N (seg O)) := by have h := hc5.ow; rw [hc5.len] at h; exact own_base h (Nat.zero_le _)
        have HOc : Hid (∀ u ∈ seg O, u.oneCell' = true) := seg_one (fun y hy => (hc5.sl y hy).one)
        clear hcp hc5 h5p hO5 hNW
        go_wp2_with (at_builtin; refine wpl_row _ rfl _ _ 30 rfl 0 37 i0 _ 14 176 Tryd.underlying30 hi hq0 hq1 hq2 rfl (by decide) (.slice wa NW wc) NW (seg Wr) (by first | rfl | simp [Act.eval]) HRw.out (.slice ca N cc) N (seg O) (by first | rfl | simp [Act.eval]) HRc.out HOc.out (by unfold maxLen; omega) (by omega) (Nat.zero_le _) ?_)
        intro v6 U6 hown6 hgrow6 hat6
        obtain ⟨wa6, wc6, hv6⟩ := own_sl hown6
        subst hv6
        obtain ⟨pl7, h6p⟩ := H5.out.1.were (wv' := .slice wa6 (NW + N) wc6) (O := O) H5.out.2.1 (by rw [HNW.out, H5.out.2.2.1]; exact hown6) hgrow6 hat6
        have H6 : Hid (Tk2P w U6 pl7 X2 i bl br (.slice ha4 (NH + N) hc4) (H.map Sz.y ++ tz.map Sz.y) (H ++ tz) (.slice wa6 (NW + N) wc6) (Wr ++ O) (.slice oa N oc) (.slice ob N od) tz Y) := h6p
        have HR6 : Hid (∃ xs, U6.ownsRow 0 37 14 (.slice oa N oc) N xs) := ⟨_, by have h := h6p.a; rw [H2.out.2.1] at h; exact h⟩
        clear hown6 hgrow6 hat6 h6p
        go_wp2_with fail
        go_loopw [18] (fun q wr => ∃ j : Nat, j ≤ N ∧ q = .int .i64 (j : Nat) ∧ Hid (Kl (fun g => (Value.slice oa N oc).ownBlock = some g) U6 wr ∧ ∃ xs, wr.ownsRow 0 37 14 (.slice oa N oc) N xs)) (fun q _ => N - (intOf q).toNat)
        case atStart => exact ⟨0, by omega, rfl, Kl.refl _ _, HR6.out⟩
        case round =>
        obtain ⟨j, hj, rfl, HJ⟩ := hrel
        obtain ⟨w8, hw8⟩ : ∃ x, x = wr := ⟨_, rfl⟩
        by_cases hjl : j < N
        · have hjl' : (j : Int) < (N : Int) := by omega
          have h0j : 0 ≤ (j : Int) := by omega
          have hwj : IntKind.i64.wrap ((j : Int) + 1) = (j : Int) + 1 := by rw [IntKind.wrap_i64]; omega
          obtain ⟨xs, hxs⟩ := HJ.out.2
          obtain ⟨ga, gc, hga⟩ := own_nz hxs (by omega)
          simp only [Value.slice.injEq, true_and] at hga
          obtain ⟨rfl, rfl⟩ := hga
          have hth : wr.there ga (j * 14) 14 := fun k hk => own_in hxs (by rw [hxs.1]; omega)
          have HE : Hid (Kl (fun g => (Value.slice (some ⟨ga, 0, none⟩) N oc).ownBlock = some g) U6 (wr.setCells ga (j * 14) zm1) ∧ ∃ xs, (wr.setCells ga (j * 14) zm1).ownsRow 0 37 14 (.slice (some ⟨ga, 0, none⟩) N oc) N xs) := by
            obtain ⟨e1, e2, e3, e4, e5⟩ := setCells_other ga zm1 (j * 14) wr
            have k := HJ.out.1
            exact ⟨⟨e2.trans k.os, e3.trans k.tape, e4.trans k.output, by rw [e5]; exact k.size, fun g hg hn => (e1 g (fun e => hn (by rw [e]; rfl))).trans (k.block g hg hn)⟩, _, own_lay zm1 xs (j * 14) wr hxs⟩
          have hsm : StorM Tryd.prog 37 wr (.pointer (some ⟨ga, j * 14, none⟩)) (.agg #[.int .i64 (-1), .int .i64 0, .int .i64 0, .slice none 0 0, .slice none 0 0, .int .i64 0, .int .i64 0, .slice none 0 0, .int .i64 0, .int .i64 0, .int .i64 0, .int .i64 0, .slice none 0 0, .int .i64 0]) := ⟨ga, j * 14, _, rfl, rfl, hth, size_sg2, by simp [Value.oneCell']⟩
          obtain ⟨W9, hW9⟩ : ∃ V, setM wr ga (j * 14) #[.int .i64 (-1), .int .i64 0, .int .i64 0, .slice none 0 0, .slice none 0 0, .int .i64 0, .int .i64 0, .slice none 0 0, .int .i64 0, .int .i64 0, .int .i64 0, .int .i64 0, .slice none 0 0, .int .i64 0] = V := ⟨_, rfl⟩
          have hW9' : wr.setCells ga (j * 14) zm1 = W9 := hW9
          rw [hW9'] at HE
          clear hxs hth hW9'
          go_wp2
          go_roundw
          case rel => exact ⟨j + 1, by omega, by go_num, HE⟩
          case measure => simp [intOf]; omega
        · have hjl' : ¬ (j : Int) < (N : Int) := by omega
          obtain ⟨xs, hxs⟩ := HJ.out.2
          have HXs : Hid (wr.ownsRow 0 37 14 (.slice oa N oc) N xs) := hxs
          clear hxs
          go_wp2_with (at_builtin; refine wpList_append_own_at _ rfl _ _ 30 rfl 0 37 i0 _ 14 176 Tryd.underlying30 hi hq0 hq1 hq2 rfl (by decide) (.slice oa N oc) N xs (by first | rfl | simp [Act.eval]) (World.ownsRow.alloc HXs.out _) ⟨wr.heap.size, 0, none⟩ 2 2 (zm2 ++ zm2) (by first | rfl | simp [Act.eval]) rfl (wrow_new wr (zm2 ++ zm2) 37) (by decide) (by unfold maxLen; omega) (by omega) (Nat.zero_le _) ?_)
          intro v9 U9 hown9 hgrow9 hx9 hat9
          obtain ⟨a9, c9, hv9⟩ := own_sl hown9
          subst hv9
          have HE : Hid (LI w U9 bl br (i + 1) (.slice ha4 (NH + N) hc4) (.slice wa6 (NW + N) wc6)) := by
            refine H6.out.li HY.out.2.2.2.1 H5.out.2.2.2 (T := fun g => (Value.slice oa N oc).ownBlock = some g) ?_ (fun g _ e => e)
            exact HJ.out.1.grown (grown_al hgrow9) (fun k hk => .inl hk)
          have hN2 : (2 : Int) ≤ ((N + 2 : Nat) : Int) := by omega
          have hN3 : (2 : Int) ≤ (N : Int) + 2 := by omega
          clear hown9 hgrow9 hx9 hat9
          go_wp2
          go_roundw
          case rel => exact ⟨i + 1, _, _, by omega, rfl, rfl, by go_num, HE⟩
          case measure => simp [intOf]; omega
      · have e1 : (do' == 1) = false := by simpa using h1
        by_cases h2 : do' = 2
        · -- Drop
          subst h2
          have hA := HY.out.1.sd kk hk2
          obtain ⟨q, hq⟩ : ∃ q, (X kk).ws.length - (wkp s.org s.num all (X kk).ws).length = q := ⟨_, rfl⟩
          have hd := dropO hA HPR.out.1 (HY.out.2.2.1 kk hk2) (by omega) s.org s.num all hq
          have HQ : Hid ((X kk).ws.length - (wkp s.org s.num all (X kk).ws).length = q) := hq
          have HC1 : Hid (W1.cell? ⟨bl, kk, none⟩ = some (.pointer (some ⟨P, 0, none⟩)) ∧ W1.cell? ⟨B, 6, none⟩ = some (.int .i64 s.org) ∧ W1.cell? ⟨B, 7, none⟩ = some (.int .i64 s.num) ∧ W1.cell? ⟨B, 4, none⟩ = some (.bool all)) := ⟨l1, (cell_of_row _ _ _ _ _ _ (HB.out W1 rfl)).trans rfl, (cell_of_row _ _ _ _ _ _ (HB.out W1 rfl)).trans rfl, (cell_of_row _ _ _ _ _ _ (HB.out W1 rfl)).trans rfl⟩
          have HNF : Hid (¬ FL (X kk).m (X kk).S bl ∧ ¬ FL (X kk).m (X kk).S br ∧ ¬ FL (X kk).m (X kk).S B ∧ (bl ≠ (X kk).r ∧ br ≠ (X kk).r ∧ B ≠ (X kk).r)) := ⟨(HY.out.1.nc hk2).1.1, (HY.out.1.nc hk2).1.2, (HY.out.1.nb HY.out.2.1 hk2).1, fun e => (HY.out.1.nc hk2).2.1 (.inl e), fun e => (HY.out.1.nc hk2).2.2 (.inl e), fun e => (HY.out.1.nb HY.out.2.1 hk2).2 (.inl e)⟩
          have HR1 : Hid (W1.cell? ⟨br, kk, none⟩ = some (.pointer (some ⟨R, 0, none⟩))) := by have h := HY.out.1.cr hk2; rw [HPR.out.2] at h; exact h
          clear hA hq
          go_upto_region 34 with fail
          refine Code.wp_mono (fun _ _ _ h => calmL_le h) ?_
          go_region_held3 (fun V => V.cell? ⟨bl, kk, none⟩ = some (.pointer (some ⟨P, 0, none⟩)) ∧ V.cell? ⟨B, 6, none⟩ = some (.int .i64 s.org) ∧ V.cell? ⟨B, 7, none⟩ = some (.int .i64 s.num) ∧ V.cell? ⟨B, 4, none⟩ = some (.bool all))
            (first | exact HC1.out | exact HU1c.out)
            (first
              | (go_at_call 12
                 refine hd.mono ?_
                 rintro e U1 ⟨rfl, hU⟩
                 have HU1 : Hid (DrO W1 U1 (X kk) i s.org s.num all) := hU
                 have HU1c : Hid (U1.cell? ⟨bl, kk, none⟩ = some (.pointer (some ⟨P, 0, none⟩)) ∧ U1.cell? ⟨B, 6, none⟩ = some (.int .i64 s.org) ∧ U1.cell? ⟨B, 7, none⟩ = some (.int .i64 s.num) ∧ U1.cell? ⟨B, 4, none⟩ = some (.bool all)) := ⟨hU.kl.cell HC1.out.1 HNF.out.1, hU.kl.cell HC1.out.2.1 HNF.out.2.2.1, hU.kl.cell HC1.out.2.2.1 HNF.out.2.2.1, hU.kl.cell HC1.out.2.2.2 HNF.out.2.2.1⟩
                 clear hU))
          simp only [calmL]
          have hA := HY.out.1.sd kk hk2
          have hrd := rdropO (hA.rlk HU1.out.kl) HPR.out.2 (fun x hx => (hA.sr x hx).2.1) (by have := hA.few; omega) s.org s.num all HQ.out
          have HC2 : Hid (U1.cell? ⟨br, kk, none⟩ = some (.pointer (some ⟨R, 0, none⟩)) ∧ U1.cell? ⟨B, 6, none⟩ = some (.int .i64 s.org) ∧ U1.cell? ⟨B, 7, none⟩ = some (.int .i64 s.num) ∧ U1.cell? ⟨B, 4, none⟩ = some (.bool all)) := ⟨HU1.out.kl.cell HR1.out HNF.out.2.1, HU1c.out.2⟩
          clear hA hd
          go_upto_region 35 with fail
          refine Code.wp_mono (fun _ _ _ h => calmL_le h) ?_
          go_region_held3 (fun V => V.cell? ⟨br, kk, none⟩ = some (.pointer (some ⟨R, 0, none⟩)) ∧ V.cell? ⟨B, 6, none⟩ = some (.int .i64 s.org) ∧ V.cell? ⟨B, 7, none⟩ = some (.int .i64 s.num) ∧ V.cell? ⟨B, 4, none⟩ = some (.bool all))
            (first | exact HC2.out | exact HU2c.out)
            (first
              | (go_at_call 13
                 refine hrd.mono ?_
                 rintro e U2 ⟨rfl, hU⟩
                 have HU2 : Hid (RdO U1 U2 (X kk) s.org s.num all) := hU
                 have HU2c : Hid (U2.cell? ⟨br, kk, none⟩ = some (.pointer (some ⟨R, 0, none⟩)) ∧ U2.cell? ⟨B, 6, none⟩ = some (.int .i64 s.org) ∧ U2.cell? ⟨B, 7, none⟩ = some (.int .i64 s.num) ∧ U2.cell? ⟨B, 4, none⟩ = some (.bool all)) := ⟨hU.kl.cell HC2.out.1 HNF.out.2.2.2.2.1, hU.kl.cell HC2.out.2.1 HNF.out.2.2.2.2.2, hU.kl.cell HC2.out.2.2.1 HNF.out.2.2.2.2.2, hU.kl.cell HC2.out.2.2.2 HNF.out.2.2.2.2.2⟩
                 clear hU))
          simp only [calmL]
          have HE : Hid (LI w U2 bl br (i + 1) hvl wvl) := by
            obtain ⟨v, S', E', hd⟩ := HU1.out
            obtain ⟨v', r1, r2, r3⟩ := HU2.out
            exact li_drop hk2 HY.out.1 HY.out.2.2.1 HY.out.2.2.2.1 HY.out.2.2.2.2.1 hd r1 r2 r3
          clear hrd b0 b1 l1
          go_wp2
          go_roundw
          case rel => exact ⟨i + 1, _, _, by omega, rfl, rfl, by go_num, HE⟩
          case measure => simp [intOf]; omega
        · have e2 : (do' == 2) = false := by simpa using h2
          by_cases h3 : do' = 3
          · -- Count
            subst h3
            have hA := HY.out.1.sd kk hk2
            have hco := lcountG W1.drew (X kk).p (X kk).m (X kk).lim pe (X kk).S i (X kk).c (X kk).E (hA.lg.below (bel_dr W1)) (by omega)
            obtain ⟨q, hq⟩ : ∃ q, cnt ((X kk).S pe) = q := ⟨_, rfl⟩
            have HQ : Hid (cnt ((X kk).S pe) = q ∧ wcn pe (X kk).ws = q) := ⟨hq, by rw [← hq]; exact (cnt_rel hA.gw (HY.out.2.2.1 kk hk2) pe).symm⟩
            rw [hq, HPR.out.1] at hco
            have HC1 : Hid (W1.cell? ⟨bl, kk, none⟩ = some (.pointer (some ⟨P, 0, none⟩)) ∧ W1.cell? ⟨B, 2, none⟩ = some (.int .i64 pe)) := ⟨l1, (cell_of_row _ _ _ _ _ _ (HB.out W1 rfl)).trans rfl⟩
            clear hA hq
            go_upto_region 38 with fail
            refine Code.wp_mono (fun _ _ _ h => calmL_le h) ?_
            go_region_held3 (fun V => V.cell? ⟨bl, kk, none⟩ = some (.pointer (some ⟨P, 0, none⟩)) ∧ V.cell? ⟨B, 2, none⟩ = some (.int .i64 pe))
              (first | exact HC1.out | exact HU1c.out)
              (first
                | (go_at_call 14
                   refine hco.mono ?_
                   rintro e U1 ⟨rfl, hU⟩
                   have HU1 : Hid (Below W1.heap.size W1 U1) := bel_un hU
                   have HU1c : Hid (U1.cell? ⟨bl, kk, none⟩ = some (.pointer (some ⟨P, 0, none⟩)) ∧ U1.cell? ⟨B, 2, none⟩ = some (.int .i64 pe)) := ⟨cell_below HC1.out.1 HU1.out, cell_below HC1.out.2 HU1.out⟩
                   clear hU))
            simp only [calmL]
            have HY1 : Hid (Py w U1 (trash W1 pl1) i X hvl (H.map Sz.y) H wvl Wr bl br) := HY.out.1.below HU1.out
            have hA1 := HY1.out.sd kk hk2
            have hrc := rcount_any U1.drew (X kk).r (X kk).lim pe (X kk).v (X kk).ws (hA1.rl.below (bel_dr U1)) _ rfl (by have := hA1.few; omega)
            rw [HQ.out.2, HPR.out.2] at hrc
            have HC2 : Hid (U1.cell? ⟨br, kk, none⟩ = some (.pointer (some ⟨R, 0, none⟩)) ∧ U1.cell? ⟨B, 2, none⟩ = some (.int .i64 pe)) := ⟨by have h := HY1.out.cr hk2; rw [HPR.out.2] at h; exact h, HU1c.out.2⟩
            clear hA1 hco
            go_upto_region 39 with fail
            refine Code.wp_mono (fun _ _ _ h => calmL_le h) ?_
            go_region_held3 (fun V => V.cell? ⟨br, kk, none⟩ = some (.pointer (some ⟨R, 0, none⟩)) ∧ V.cell? ⟨B, 2, none⟩ = some (.int .i64 pe))
              (first | exact HC2.out | exact HU2c.out)
              (first
                | (go_at_call 15
                   refine hrc.mono ?_
                   rintro e U2 ⟨rfl, hU⟩
                   have HU2 : Hid (Below U1.heap.size U1 U2) := bel_un hU
                   have HU2c : Hid (U2.cell? ⟨br, kk, none⟩ = some (.pointer (some ⟨R, 0, none⟩)) ∧ U2.cell? ⟨B, 2, none⟩ = some (.int .i64 pe)) := ⟨cell_below HC2.out.1 HU2.out, cell_below HC2.out.2 HU2.out⟩
                   clear hU))
            simp only [calmL]
            have HE : Hid (LI w U2 bl br (i + 1) hvl wvl) := ⟨_, X, H, Wr, HY.out.2.2.1, (HY1.out.below HU2.out).up (by omega), HY.out.2.2.2.1, by have := HY.out.2.2.2.2.1; omega⟩
            clear hrc b0 b1 l1
            go_wp2
            go_roundw
            case rel => exact ⟨i + 1, _, _, by omega, rfl, rfl, by go_num, HE⟩
            case measure => simp [intOf]; omega
          · -- Put
            have e3 : (do' == 3) = false := by simpa using h3
            have hbw1 := HY.out.1.bw
            have hsW := HS.out.below hbw1
            obtain ⟨nh, hnh⟩ : ∃ n, hx0.length = n := ⟨_, rfl⟩
            obtain ⟨nt, hnt⟩ : ∃ n, tx0.length = n := ⟨_, rfl⟩
            obtain ⟨nd, hnd⟩ : ∃ n, s.data.length = n := ⟨_, rfl⟩
            obtain ⟨nc, hnc⟩ : ∃ n, s.clm.length = n := ⟨_, rfl⟩
            have hLn := lentO s (.slice a1 m1 k1) (.slice a2 m2 k2) (.slice a3 m3 k3) (.slice a4 m4 k4) hx0 tx0 W1 hsW hnh hnt hnd hnc
            have HNn : Hid (hx0.length = nh ∧ tx0.length = nt ∧ s.data.length = nd ∧ s.clm.length = nc) := ⟨hnh, hnt, hnd, hnc⟩
            have hrg : W1.rangeAt B 5 [.int .i64 s.typ, .int .i64 s.org, .int .i64 s.num, .slice a1 m1 k1, .slice a2 m2 k2, .int .i64 s.srv, .int .i64 s.off, .slice a3 m3 k3, .int .i64 s.chk, .int .i64 s.rep, .int .i64 s.upp, .int .i64 s.low, .slice a4 m4 k4, .int .i64 s.rsn] := by
              have hb := HB.out W1 rfl
              intro j v hj
              have hj14 : j < 14 := (List.getElem?_eq_some_iff.mp hj).1
              rw [cell_of_row _ _ _ _ _ _ hb]
              have e : j = 0 ∨ j = 1 ∨ j = 2 ∨ j = 3 ∨ j = 4 ∨ j = 5 ∨ j = 6 ∨ j = 7 ∨ j = 8 ∨ j = 9 ∨ j = 10 ∨ j = 11 ∨ j = 12 ∨ j = 13 := by omega
              rcases e with rfl | rfl | rfl | rfl | rfl | rfl | rfl | rfl | rfl | rfl | rfl | rfl | rfl | rfl <;> exact hj
            have HRg : Hid (W1.rangeAt B 5 [.int .i64 s.typ, .int .i64 s.org, .int .i64 s.num, .slice a1 m1 k1, .slice a2 m2 k2, .int .i64 s.srv, .int .i64 s.off, .slice a3 m3 k3, .int .i64 s.chk, .int .i64 s.rep, .int .i64 s.upp, .int .i64 s.low, .slice a4 m4 k4, .int .i64 s.rsn]) := hrg
            clear hbw1 hsW hnh hnt hnd hnc b1
            go_wp2_with (refine wpList_load_mid rfl 37 _ rfl B 5 (by first | rfl | simp [Act.eval]) _ _ hrg Tryd.underlying37 rfl size_sg2 ?_)
            refine hLn.mono ?_
            rintro e U1 ⟨gh, gt, gd, gc, rfl, hl1, hb1⟩
            obtain ⟨Bu, hBu⟩ : ∃ q, U1.heap.size = q := ⟨_, rfl⟩
            obtain ⟨V1, hV1⟩ : ∃ V, U1.alloc (.cells zsC 37) = V := ⟨_, rfl⟩
            have hst : Stor2 Tryd.prog 37 V1 (.pointer (some ⟨Bu, 0, none⟩)) (.agg #[.int .i64 s.typ, .int .i64 s.org, .int .i64 s.num, .slice (some ⟨gh, 0, none⟩) nh (nh + 2), .slice (some ⟨gt, 0, none⟩) nt (nt + 2), .int .i64 s.srv, .int .i64 s.off, .slice (some ⟨gd, 0, none⟩) nd (nd + 2), .int .i64 s.chk, .int .i64 s.rep, .int .i64 s.upp, .int .i64 s.low, .slice (some ⟨gc, 0, none⟩) nc (nc + 2), .int .i64 s.rsn]) := ⟨Bu, _, zsC, _, rfl, rfl, by rw [← hV1, ← hBu]; exact heap_alloc_new' _ _, rfl, size_sg2, by simp [Value.oneCell']⟩
            obtain ⟨W2, hW2⟩ : ∃ V, V1.setRow Bu #[.int .i64 s.typ, .int .i64 s.org, .int .i64 s.num, .slice (some ⟨gh, 0, none⟩) nh (nh + 2), .slice (some ⟨gt, 0, none⟩) nt (nt + 2), .int .i64 s.srv, .int .i64 s.off, .slice (some ⟨gd, 0, none⟩) nd (nd + 2), .int .i64 s.chk, .int .i64 s.rep, .int .i64 s.upp, .int .i64 s.low, .slice (some ⟨gc, 0, none⟩) nc (nc + 2), .int .i64 s.rsn] = V := ⟨_, rfl⟩
            have H2 : Hid (Below U1.heap.size U1 W2 ∧ W2.heap[Bu]? = some (.cells #[.int .i64 s.typ, .int .i64 s.org, .int .i64 s.num, .slice (some ⟨gh, 0, none⟩) nh (nh + 2), .slice (some ⟨gt, 0, none⟩) nt (nt + 2), .int .i64 s.srv, .int .i64 s.off, .slice (some ⟨gd, 0, none⟩) nd (nd + 2), .int .i64 s.chk, .int .i64 s.rep, .int .i64 s.upp, .int .i64 s.low, .slice (some ⟨gc, 0, none⟩) nc (nc + 2), .int .i64 s.rsn] 37 (0, 0)) ∧ U1.heap.size = Bu ∧ Below W1.heap.size W1 W2 ∧ LnO W2 W1.heap.size Bu s hx0 tx0 gh gt gd gc ∧ W1.heap.size ≤ Bu) := by
              have b0 : Below U1.heap.size U1 V1 := by rw [← hV1]; exact (Below.refl _ _).alloc (Nat.le_refl _) _
              have e0 : V1.heap[Bu]? = some (.cells zsC 37 (0, 0)) := by rw [← hV1, ← hBu]; exact heap_alloc_new' _ _
              have b2 : Below U1.heap.size U1 W2 := by rw [← hW2]; exact bl_setRow2 b0 (by omega) _
              refine ⟨b2, by rw [← hW2]; exact setRow_heap _ _ _ _ _ _ e0, hBu, hb1.trans (b2.mono hb1.size), ?_, by rw [← hBu]; exact hb1.size⟩
              rw [hBu] at hl1 b2
              exact hl1.keep (fun g h1 h2 => b2.block g h2)
            clear hLn hl1 hb1 hrg
            go_upto_region 16 with fail
            clear hst hV1 hW2
            have HY2 : Hid (Py w W2 (trash W1 pl1) i X hvl (H.map Sz.y) H wvl Wr bl br ∧ (∀ g, W1.heap.size ≤ g → g < Bu → g < W2.heap.size ∧ (trash W1 pl1 g).1 = 7) ∧ (trash W1 pl1 B).1 = 7 ∧ (trash W1 pl1 Bu).1 = 7) := by
              have hs2 := (Array.getElem?_eq_some_iff.1 H2.out.2.1).1
              refine ⟨HY.out.1.below H2.out.2.2.2.1, fun g h1 h2 => ⟨by omega, by rw [trash_new h1]⟩, by rw [trash_old HY.out.2.2.2.2.2]; exact HY.out.2.1, by rw [trash_new H2.out.2.2.2.2.2]⟩
            have hA := HY2.out.1.sd kk hk2
            have hsW2 := HS.out.below HY2.out.1.bw
            obtain ⟨q, hq⟩ : ∃ q, ocm pe (prt s hx0 tx0).1 (kdn s.typ) (X kk).lim (Wt ((X kk).S pe) 0).length = q := ⟨_, rfl⟩
            have HQ : Hid (ocm pe (prt s hx0 tx0).1 (kdn s.typ) (X kk).lim (wan pe (X kk).ws) = q) := by show _ = _; rw [← ocm_rel hA (HY.out.2.2.1 kk hk2)]; exact hq
            have hpt := putL HY2.out.1 hk2 HPR.out.1 (by omega) HY2.out.2.1 H2.out.2.2.2.2.1 hsW2 (HA.out.2.2.2 W2 HY2.out.1.bw) hq HNn.out.1 HNn.out.2.1 HNn.out.2.2.1 HNn.out.2.2.2
            have HNF : Hid ((¬ FL (X kk).m (X kk).S bl ∧ ¬ FL (X kk).m (X kk).S br ∧ ¬ FL (X kk).m (X kk).S B ∧ ¬ FL (X kk).m (X kk).S Bu) ∧ (¬ (bl = (X kk).r ∨ (X kk).v.ownBlock = some bl) ∧ ¬ (br = (X kk).r ∨ (X kk).v.ownBlock = some br) ∧ ¬ (B = (X kk).r ∨ (X kk).v.ownBlock = some B) ∧ ¬ (Bu = (X kk).r ∨ (X kk).v.ownBlock = some Bu))) := by
              obtain ⟨⟨n1, n2⟩, n3, n4⟩ := HY2.out.1.nc hk2
              obtain ⟨n5, n6⟩ := HY2.out.1.nb HY2.out.2.2.1 hk2
              obtain ⟨n7, n8⟩ := HY2.out.1.nb HY2.out.2.2.2 hk2
              exact ⟨⟨n1, n2, n5, n7⟩, n3, n4, n6, n8⟩
            have HBk : Hid (∀ V : World, V.heap[B]? = W2.heap[B]? → V.heap[Bu]? = W2.heap[Bu]? → V.cell? ⟨B, 2, none⟩ = some (.int .i64 pe) ∧ (V.cell? ⟨Bu, 0, none⟩ = some (.int .i64 s.typ) ∧ V.cell? ⟨Bu, 1, none⟩ = some (.int .i64 s.org) ∧ V.cell? ⟨Bu, 2, none⟩ = some (.int .i64 s.num) ∧ V.cell? ⟨Bu, 3, none⟩ = some (.slice (some ⟨gh, 0, none⟩) nh (nh + 2)) ∧ V.cell? ⟨Bu, 4, none⟩ = some (.slice (some ⟨gt, 0, none⟩) nt (nt + 2)) ∧ V.cell? ⟨Bu, 5, none⟩ = some (.int .i64 s.srv) ∧ V.cell? ⟨Bu, 6, none⟩ = some (.int .i64 s.off) ∧ V.cell? ⟨Bu, 7, none⟩ = some (.slice (some ⟨gd, 0, none⟩) nd (nd + 2)) ∧ V.cell? ⟨Bu, 8, none⟩ = some (.int .i64 s.chk) ∧ V.cell? ⟨Bu, 9, none⟩ = some (.int .i64 s.rep) ∧ V.cell? ⟨Bu, 10, none⟩ = some (.int .i64 s.upp) ∧ V.cell? ⟨Bu, 11, none⟩ = some (.int .i64 s.low) ∧ V.cell? ⟨Bu, 12, none⟩ = some (.slice (some ⟨gc, 0, none⟩) nc (nc + 2)) ∧ V.cell? ⟨Bu, 13, none⟩ = some (.int .i64 s.rsn)) ∧ (V.cell? ⟨B, 5, none⟩ = some (.int .i64 s.typ) ∧ V.cell? ⟨B, 6, none⟩ = some (.int .i64 s.org) ∧ V.cell? ⟨B, 7, none⟩ = some (.int .i64 s.num) ∧ V.cell? ⟨B, 8, none⟩ = some (.slice a1 m1 k1) ∧ V.cell? ⟨B, 9, none⟩ = some (.slice a2 m2 k2) ∧ V.cell? ⟨B, 10, none⟩ = some (.int .i64 s.srv) ∧ V.cell? ⟨B, 11, none⟩ = some (.int .i64 s.off) ∧ V.cell? ⟨B, 12, none⟩ = some (.slice a3 m3 k3) ∧ V.cell? ⟨B, 13, none⟩ = some (.int .i64 s.chk) ∧ V.cell? ⟨B, 14, none⟩ = some (.int .i64 s.rep) ∧ V.cell? ⟨B, 15, none⟩ = some (.int .i64 s.upp) ∧ V.cell? ⟨B, 16, none⟩ = some (.int .i64 s.low) ∧ V.cell? ⟨B, 17, none⟩ = some (.slice a4 m4 k4) ∧ V.cell? ⟨B, 18, none⟩ = some (.int .i64 s.rsn)) ∧ V.rangeAt B 5 [.int .i64 s.typ, .int .i64 s.org, .int .i64 s.num, .slice a1 m1 k1, .slice a2 m2 k2, .int .i64 s.srv, .int .i64 s.off, .slice a3 m3 k3, .int .i64 s.chk, .int .i64 s.rep, .int .i64 s.upp, .int .i64 s.low, .slice a4 m4 k4, .int .i64 s.rsn] ∧ V.rangeAt Bu 0 [.int .i64 s.typ, .int .i64 s.org, .int .i64 s.num, .slice (some ⟨gh, 0, none⟩) nh (nh + 2), .slice (some ⟨gt, 0, none⟩) nt (nt + 2), .int .i64 s.srv, .int .i64 s.off, .slice (some ⟨gd, 0, none⟩) nd (nd + 2), .int .i64 s.chk, .int .i64 s.rep, .int .i64 s.upp, .int .i64 s.low, .slice (some ⟨gc, 0, none⟩) nc (nc + 2), .int .i64 s.rsn]) := fun V h1 h2 => by
              have eB : V.heap[B]? = some (.cells #[.int .i64 do', .int .i64 wh, .int .i64 pe, .int .i64 nn, .bool all, .int .i64 s.typ, .int .i64 s.org, .int .i64 s.num, .slice a1 m1 k1, .slice a2 m2 k2, .int .i64 s.srv, .int .i64 s.off, .slice a3 m3 k3, .int .i64 s.chk, .int .i64 s.rep, .int .i64 s.upp, .int .i64 s.low, .slice a4 m4 k4, .int .i64 s.rsn] 39 (0, 0)) := HB.out V (h1.trans (H2.out.2.2.2.1.block B HY.out.2.2.2.2.2))
              have eU := h2.trans H2.out.2.1
              refine ⟨(cell_of_row _ _ _ _ _ _ eB).trans rfl, s14_cells eU, ⟨(cell_of_row _ _ _ _ _ _ eB).trans rfl, (cell_of_row _ _ _ _ _ _ eB).trans rfl, (cell_of_row _ _ _ _ _ _ eB).trans rfl, (cell_of_row _ _ _ _ _ _ eB).trans rfl, (cell_of_row _ _ _ _ _ _ eB).trans rfl, (cell_of_row _ _ _ _ _ _ eB).trans rfl, (cell_of_row _ _ _ _ _ _ eB).trans rfl, (cell_of_row _ _ _ _ _ _ eB).trans rfl, (cell_of_row _ _ _ _ _ _ eB).trans rfl, (cell_of_row _ _ _ _ _ _ eB).trans rfl, (cell_of_row _ _ _ _ _ _ eB).trans rfl, (cell_of_row _ _ _ _ _ _ eB).trans rfl, (cell_of_row _ _ _ _ _ _ eB).trans rfl, (cell_of_row _ _ _ _ _ _ eB).trans rfl⟩, fun j v hj => ?_, fun j v hj => ?_⟩
              · rw [World.cell?_of_block (a := ⟨B, 5 + j, none⟩) (h1.trans (H2.out.2.2.2.1.block B HY.out.2.2.2.2.2))]
                exact HRg.out j v hj
              · rw [cell_of_row _ _ _ _ _ _ eU, Nat.zero_add]
                rw [List.getElem?_toArray]
                exact hj
            have HC1 : Hid (W2.cell? ⟨bl, kk, none⟩ = some (.pointer (some ⟨P, 0, none⟩)) ∧ W2.cell? ⟨B, 2, none⟩ = some (.int .i64 pe) ∧ W2.cell? ⟨Bu, 0, none⟩ = some (.int .i64 s.typ) ∧ W2.cell? ⟨Bu, 1, none⟩ = some (.int .i64 s.org) ∧ W2.cell? ⟨Bu, 2, none⟩ = some (.int .i64 s.num) ∧ W2.cell? ⟨Bu, 3, none⟩ = some (.slice (some ⟨gh, 0, none⟩) nh (nh + 2)) ∧ W2.cell? ⟨Bu, 4, none⟩ = some (.slice (some ⟨gt, 0, none⟩) nt (nt + 2)) ∧ W2.cell? ⟨Bu, 5, none⟩ = some (.int .i64 s.srv) ∧ W2.cell? ⟨Bu, 6, none⟩ = some (.int .i64 s.off) ∧ W2.cell? ⟨Bu, 7, none⟩ = some (.slice (some ⟨gd, 0, none⟩) nd (nd + 2)) ∧ W2.cell? ⟨Bu, 8, none⟩ = some (.int .i64 s.chk) ∧ W2.cell? ⟨Bu, 9, none⟩ = some (.int .i64 s.rep) ∧ W2.cell? ⟨Bu, 10, none⟩ = some (.int .i64 s.upp) ∧ W2.cell? ⟨Bu, 11, none⟩ = some (.int .i64 s.low) ∧ W2.cell? ⟨Bu, 12, none⟩ = some (.slice (some ⟨gc, 0, none⟩) nc (nc + 2)) ∧ W2.cell? ⟨Bu, 13, none⟩ = some (.int .i64 s.rsn)) := ⟨by have h := HY2.out.1.cl hk2; rw [HPR.out.1] at h; exact h, (HBk.out W2 rfl rfl).1, (HBk.out W2 rfl rfl).2.1⟩
            have HR1 : Hid (W2.cell? ⟨br, kk, none⟩ = some (.pointer (some ⟨R, 0, none⟩))) := by have h := HY2.out.1.cr hk2; rw [HPR.out.2] at h; exact h
            clear hA hsW2 hq b0 l1
            go_upto_region 16 with fail
            refine Code.wp_mono (fun _ _ _ h => calmL_le h) ?_
            go_region_held3 (fun V => V.cell? ⟨bl, kk, none⟩ = some (.pointer (some ⟨P, 0, none⟩)) ∧ V.cell? ⟨B, 2, none⟩ = some (.int .i64 pe) ∧ V.cell? ⟨Bu, 0, none⟩ = some (.int .i64 s.typ) ∧ V.cell? ⟨Bu, 1, none⟩ = some (.int .i64 s.org) ∧ V.cell? ⟨Bu, 2, none⟩ = some (.int .i64 s.num) ∧ V.cell? ⟨Bu, 3, none⟩ = some (.slice (some ⟨gh, 0, none⟩) nh (nh + 2)) ∧ V.cell? ⟨Bu, 4, none⟩ = some (.slice (some ⟨gt, 0, none⟩) nt (nt + 2)) ∧ V.cell? ⟨Bu, 5, none⟩ = some (.int .i64 s.srv) ∧ V.cell? ⟨Bu, 6, none⟩ = some (.int .i64 s.off) ∧ V.cell? ⟨Bu, 7, none⟩ = some (.slice (some ⟨gd, 0, none⟩) nd (nd + 2)) ∧ V.cell? ⟨Bu, 8, none⟩ = some (.int .i64 s.chk) ∧ V.cell? ⟨Bu, 9, none⟩ = some (.int .i64 s.rep) ∧ V.cell? ⟨Bu, 10, none⟩ = some (.int .i64 s.upp) ∧ V.cell? ⟨Bu, 11, none⟩ = some (.int .i64 s.low) ∧ V.cell? ⟨Bu, 12, none⟩ = some (.slice (some ⟨gc, 0, none⟩) nc (nc + 2)) ∧ V.cell? ⟨Bu, 13, none⟩ = some (.int .i64 s.rsn))
              (first | exact HC1.out | exact HU3c.out)
              (first
                | (go_at_call 17
                   refine hpt.mono ?_
                   rintro e U3 ⟨rfl, hU⟩
                   have HU3 : Hid (PO W2 U3 (X kk) pe i s q) := hU
                   have HU3b : Hid (U3.heap[B]? = W2.heap[B]? ∧ U3.heap[Bu]? = W2.heap[Bu]?) := ⟨hU.kl.block B (Nat.lt_of_lt_of_le HY.out.2.2.2.2.2 H2.out.2.2.2.1.size) HNF.out.1.2.2.1, hU.kl.block Bu (Array.getElem?_eq_some_iff.1 H2.out.2.1).1 HNF.out.1.2.2.2⟩
                   have HU3c : Hid (U3.cell? ⟨bl, kk, none⟩ = some (.pointer (some ⟨P, 0, none⟩)) ∧ U3.cell? ⟨B, 2, none⟩ = some (.int .i64 pe) ∧ U3.cell? ⟨Bu, 0, none⟩ = some (.int .i64 s.typ) ∧ U3.cell? ⟨Bu, 1, none⟩ = some (.int .i64 s.org) ∧ U3.cell? ⟨Bu, 2, none⟩ = some (.int .i64 s.num) ∧ U3.cell? ⟨Bu, 3, none⟩ = some (.slice (some ⟨gh, 0, none⟩) nh (nh + 2)) ∧ U3.cell? ⟨Bu, 4, none⟩ = some (.slice (some ⟨gt, 0, none⟩) nt (nt + 2)) ∧ U3.cell? ⟨Bu, 5, none⟩ = some (.int .i64 s.srv) ∧ U3.cell? ⟨Bu, 6, none⟩ = some (.int .i64 s.off) ∧ U3.cell? ⟨Bu, 7, none⟩ = some (.slice (some ⟨gd, 0, none⟩) nd (nd + 2)) ∧ U3.cell? ⟨Bu, 8, none⟩ = some (.int .i64 s.chk) ∧ U3.cell? ⟨Bu, 9, none⟩ = some (.int .i64 s.rep) ∧ U3.cell? ⟨Bu, 10, none⟩ = some (.int .i64 s.upp) ∧ U3.cell? ⟨Bu, 11, none⟩ = some (.int .i64 s.low) ∧ U3.cell? ⟨Bu, 12, none⟩ = some (.slice (some ⟨gc, 0, none⟩) nc (nc + 2)) ∧ U3.cell? ⟨Bu, 13, none⟩ = some (.int .i64 s.rsn)) := ⟨hU.kl.cell HC1.out.1 HNF.out.1.1, (HBk.out U3 HU3b.out.1 HU3b.out.2).1, (HBk.out U3 HU3b.out.1 HU3b.out.2).2.1⟩
                   clear hU))
            simp only [calmL]
            obtain ⟨pl5, X5, h5p, _⟩ := HY2.out.1.putP hk2 HU3.out
            have HB3 : Hid (Below w.heap.size w U3) := h5p.bw
            have hA := HY2.out.1.sd kk hk2
            have hrp0 := putRO (W := U3.drew) (A := X kk) (K := pe) ((hA.rlk HU3.out.kl).below (bel_dr U3)) (by have := hA.few; omega) s (.slice a1 m1 k1) (.slice a2 m2 k2) (.slice a3 m3 k3) (.slice a4 m4 k4) hx0 tx0 ((HS.out.below HB3.out).below (bel_dr U3)) q HQ.out
            rw [HPR.out.2] at hrp0
            have HC2 : Hid (U3.cell? ⟨br, kk, none⟩ = some (.pointer (some ⟨R, 0, none⟩)) ∧ U3.cell? ⟨B, 2, none⟩ = some (.int .i64 pe) ∧ U3.cell? ⟨B, 5, none⟩ = some (.int .i64 s.typ) ∧ U3.cell? ⟨B, 6, none⟩ = some (.int .i64 s.org) ∧ U3.cell? ⟨B, 7, none⟩ = some (.int .i64 s.num) ∧ U3.cell? ⟨B, 8, none⟩ = some (.slice a1 m1 k1) ∧ U3.cell? ⟨B, 9, none⟩ = some (.slice a2 m2 k2) ∧ U3.cell? ⟨B, 10, none⟩ = some (.int .i64 s.srv) ∧ U3.cell? ⟨B, 11, none⟩ = some (.int .i64 s.off) ∧ U3.cell? ⟨B, 12, none⟩ = some (.slice a3 m3 k3) ∧ U3.cell? ⟨B, 13, none⟩ = some (.int .i64 s.chk) ∧ U3.cell? ⟨B, 14, none⟩ = some (.int .i64 s.rep) ∧ U3.cell? ⟨B, 15, none⟩ = some (.int .i64 s.upp) ∧ U3.cell? ⟨B, 16, none⟩ = some (.int .i64 s.low) ∧ U3.cell? ⟨B, 17, none⟩ = some (.slice a4 m4 k4) ∧ U3.cell? ⟨B, 18, none⟩ = some (.int .i64 s.rsn)) := ⟨HU3.out.kl.cell HR1.out HNF.out.1.2.1, (HBk.out U3 HU3b.out.1 HU3b.out.2).1, (HBk.out U3 HU3b.out.1 HU3b.out.2).2.2.1⟩
            clear hA hpt h5p
            go_upto_region 17 with fail
            refine Code.wp_mono (fun _ _ _ h => calmL_le h) ?_
            go_region_held3 (fun V => V.cell? ⟨br, kk, none⟩ = some (.pointer (some ⟨R, 0, none⟩)) ∧ V.cell? ⟨B, 2, none⟩ = some (.int .i64 pe) ∧ V.cell? ⟨B, 5, none⟩ = some (.int .i64 s.typ) ∧ V.cell? ⟨B, 6, none⟩ = some (.int .i64 s.org) ∧ V.cell? ⟨B, 7, none⟩ = some (.int .i64 s.num) ∧ V.cell? ⟨B, 8, none⟩ = some (.slice a1 m1 k1) ∧ V.cell? ⟨B, 9, none⟩ = some (.slice a2 m2 k2) ∧ V.cell? ⟨B, 10, none⟩ = some (.int .i64 s.srv) ∧ V.cell? ⟨B, 11, none⟩ = some (.int .i64 s.off) ∧ V.cell? ⟨B, 12, none⟩ = some (.slice a3 m3 k3) ∧ V.cell? ⟨B, 13, none⟩ = some (.int .i64 s.chk) ∧ V.cell? ⟨B, 14, none⟩ = some (.int .i64 s.rep) ∧ V.cell? ⟨B, 15, none⟩ = some (.int .i64 s.upp) ∧ V.cell? ⟨B, 16, none⟩ = some (.int .i64 s.low) ∧ V.cell? ⟨B, 17, none⟩ = some (.slice a4 m4 k4) ∧ V.cell? ⟨B, 18, none⟩ = some (.int .i64 s.rsn))
              (first | exact HC2.out | exact HU4c.out)
              (first
                | (go_at_call 18
                   refine hrp0.mono ?_
                   rintro e U4 ⟨rfl, hU0⟩
                   have hU := hU0.un
                   have HU4 : Hid (RO U3 U4 (X kk) pe s q) := hU
                   have HU4b : Hid (U4.heap[B]? = W2.heap[B]? ∧ U4.heap[Bu]? = W2.heap[Bu]?) := ⟨(hU.kl.block B (Nat.lt_of_lt_of_le (Nat.lt_of_lt_of_le HY.out.2.2.2.2.2 H2.out.2.2.2.1.size) HU3.out.kl.size) HNF.out.2.2.2.1).trans HU3b.out.1, (hU.kl.block Bu (Nat.lt_of_lt_of_le (Array.getElem?_eq_some_iff.1 H2.out.2.1).1 HU3.out.kl.size) HNF.out.2.2.2.2).trans HU3b.out.2⟩
                   have HU4c : Hid (U4.cell? ⟨br, kk, none⟩ = some (.pointer (some ⟨R, 0, none⟩)) ∧ U4.cell? ⟨B, 2, none⟩ = some (.int .i64 pe) ∧ U4.cell? ⟨B, 5, none⟩ = some (.int .i64 s.typ) ∧ U4.cell? ⟨B, 6, none⟩ = some (.int .i64 s.org) ∧ U4.cell? ⟨B, 7, none⟩ = some (.int .i64 s.num) ∧ U4.cell? ⟨B, 8, none⟩ = some (.slice a1 m1 k1) ∧ U4.cell? ⟨B, 9, none⟩ = some (.slice a2 m2 k2) ∧ U4.cell? ⟨B, 10, none⟩ = some (.int .i64 s.srv) ∧ U4.cell? ⟨B, 11, none⟩ = some (.int .i64 s.off) ∧ U4.cell? ⟨B, 12, none⟩ = some (.slice a3 m3 k3) ∧ U4.cell? ⟨B, 13, none⟩ = some (.int .i64 s.chk) ∧ U4.cell? ⟨B, 14, none⟩ = some (.int .i64 s.rep) ∧ U4.cell? ⟨B, 15, none⟩ = some (.int .i64 s.upp) ∧ U4.cell? ⟨B, 16, none⟩ = some (.int .i64 s.low) ∧ U4.cell? ⟨B, 17, none⟩ = some (.slice a4 m4 k4) ∧ U4.cell? ⟨B, 18, none⟩ = some (.int .i64 s.rsn)) := ⟨hU.kl.cell HC2.out.1 HNF.out.2.2.1, (HBk.out U4 HU4b.out.1 HU4b.out.2).1, (HBk.out U4 HU4b.out.1 HU4b.out.2).2.2.1⟩
                   clear hU hU0))
            simp only [calmL]
            have HB4 : Hid (Below w.heap.size w U4 ∧ LnO U4 W1.heap.size Bu s hx0 tx0 gh gt gd gc) := by
              have l3 := HY2.out.1.lent hk2 HY2.out.2.1 H2.out.2.2.2.2.1 HU3.out.kl
              refine ⟨?_, HY2.out.1.lent2 hk2 HY2.out.2.1 HU3.out.kl.size l3 HU4.out.kl⟩
              have k1 := (Kl.of_below (S := fun g => g = (X kk).r ∨ (X kk).v.ownBlock = some g) HB3.out).then HU4.out.kl (fun _ _ e => e)
              have hA := HY2.out.1.sd kk hk2
              exact ⟨k1.os, k1.tape, k1.output, k1.size, fun g hg => k1.block g hg (fun e => by
                have hm : mtb (trash W1 pl1) g := by
                  have ht : (trash W1 pl1 g).1 = 1 + 2 * kk + 1 := e.elim (fun e => by rw [e]; exact hA.fr) (fun e => hA.fv g e)
                  unfold mtb; omega
                have := HY2.out.1.nn g (Nat.lt_of_lt_of_le hg HY2.out.1.bw.size) hm
                omega)⟩
            obtain ⟨B1, B2, B3, hR, tR, ls1, ls2, ls3⟩ := HB4.out.2.ls
            have hkp := kept_seg s (.slice a1 m1 k1) (.slice a2 m2 k2) (.slice a3 m3 k3) (.slice a4 m4 k4) hx0 tx0 hR tR U4 W1.heap.size B1 B2 B3 gh gt gd gc ls1 (HS.out.below HB4.out.1)
            rw [HNn.out.1, HNn.out.2.1, HNn.out.2.2.1, HNn.out.2.2.2] at hkp
            obtain ⟨_, _, _, rg1, rg2⟩ := HBk.out U4 HU4b.out.1 HU4b.out.2
            clear hrp0 ls1 ls2 ls3
            go_wp2_with (first
              | (refine wpList_load_mid rfl 37 _ rfl Bu 0 rfl _ _ rg2 Tryd.underlying37 rfl size_sg2 ?_)
              | (refine wpList_load_mid rfl 37 _ rfl B 5 rfl _ _ rg1 Tryd.underlying37 rfl size_sg2 ?_))
            refine hkp.mono ?_
            rintro e U5 ⟨rfl, hb5⟩
            have HU5 : Hid (Below U4.heap.size U4 U5) := hb5
            have HL5 : Hid (LnO U5 W1.heap.size Bu s hx0 tx0 gh gt gd gc) := HB4.out.2.keep (fun g h1 h2 => hb5.block g (by have h3 := (HY2.out.2.1 g h1 h2).1; have h4 := HU3.out.kl.size; have h5 := HU4.out.kl.size; omega))
            obtain ⟨B1, B2, B3, hR, tR, ls1, ls2, ls3⟩ := HL5.out.ls
            have hsp := spoil_any U5 W1.heap.size Bu B1 B2 B3 s hx0 tx0 hR tR gh gt gd gc ls1 ⟨HS.out.head.small, fun x hx => (HS.out.head.data x hx).small⟩ ⟨HS.out.tail.small, fun x hx => (HS.out.tail.data x hx).small⟩ HS.out.data.small HS.out.clm.small ls2 ls3
            rw [HNn.out.1, HNn.out.2.1, HNn.out.2.2.1, HNn.out.2.2.2] at hsp
            have rg5 : U5.rangeAt Bu 0 [.int .i64 s.typ, .int .i64 s.org, .int .i64 s.num, .slice (some ⟨gh, 0, none⟩) nh (nh + 2), .slice (some ⟨gt, 0, none⟩) nt (nt + 2), .int .i64 s.srv, .int .i64 s.off, .slice (some ⟨gd, 0, none⟩) nd (nd + 2), .int .i64 s.chk, .int .i64 s.rep, .int .i64 s.upp, .int .i64 s.low, .slice (some ⟨gc, 0, none⟩) nc (nc + 2), .int .i64 s.rsn] := (HBk.out U5 ((hb5.block B (by have h3 := HY.out.2.2.2.2.2; have h4 := HU3.out.kl.size; have h5 := HU4.out.kl.size; have h6 := H2.out.2.2.2.1.size; omega)).trans HU4b.out.1) ((hb5.block Bu (by have h3 := (Array.getElem?_eq_some_iff.1 H2.out.2.1).1; have h4 := HU3.out.kl.size; have h5 := HU4.out.kl.size; omega)).trans HU4b.out.2)).2.2.2.2
            clear hkp hb5 rg1 rg2 ls1 ls2 ls3
            go_wp2_with (refine wpList_load_mid rfl 37 _ rfl Bu 0 (by first | rfl | simp [Act.eval]) _ _ rg5 Tryd.underlying37 rfl size_sg2 ?_)
            refine hsp.mono ?_
            rintro e U6 ⟨⟨u6, rfl⟩, hk6⟩
            have HE : Hid (LI w U6 bl br (i + 1) hvl wvl) := by
              refine li_put hk2 HY2.out.1 HY.out.2.2.1 HY.out.2.2.2.1 HY.out.2.2.2.2.1 HU3.out HU4.out (fun e => sgb_of HS.out.headEq HS.out.tailEq (ocm_ok (HQ.out.trans e))) (T := fun g => W1.heap.size ≤ g ∧ g < Bu) ((Kl.of_below HU5.out).then hk6 (fun g _ e => e)) (fun g _ e => HY2.out.2.1 g e.1 e.2)
            clear hsp hk6 rg5
            go_wp2
            go_roundw
            case rel => exact ⟨i + 1, _, _, by omega, rfl, rfl, by go_num, HE⟩
            case measure => simp [intOf]; omega
    · have hlt' : ¬ (i : Int) < (n : Int) := by omega
      obtain ⟨pl, X, H, Wr, hrel, hpy, hHW, hcnt⟩ := HI.out
      obtain ⟨N, hN⟩ : ∃ N, H.length = N := ⟨_, rfl⟩
      have hNb : N ≤ 1048576 := by omega
      have hsa := sameAll_any wr hvl wvl (H.map Sz.y) Wr (own_rw hpy.hr) (own_rw hpy.wr') (by rw [List.map_map]; exact hHW) (fun y hy => by
        obtain ⟨z, hz, rfl⟩ := List.mem_map.mp hy
        exact SgO.at ((hpy.hs z hz).at' wr (Kl.refl _ _))) (fun y hy => hpy.hws y hy wr (Kl.refl _ _)) N (by rw [List.length_map]; exact hN) (by omega)
      have HY : Hid (Py w wr pl i X hvl (H.map Sz.y) H wvl Wr bl br ∧ H.length = N) := ⟨hpy, hN⟩
      clear hrel hpy hHW hcnt hN
      go_wp2_with fail
      refine hsa.mono ?_
      rintro e U1 ⟨rfl, hb1⟩
      obtain ⟨pr, hpr⟩ : ∃ q, U1.heap.size = q := ⟨_, rfl⟩
      obtain ⟨U2, hU2⟩ : ∃ V, U1.alloc (.cells #[.slice none 0 0, .slice none 0 0, .slice none 0 0] 55) = V := ⟨_, rfl⟩
      have H2 : Hid (Py w U2 (trash wr pl) i X hvl (H.map Sz.y) H wvl Wr bl br ∧ U2.heap[pr]? = some (.cells #[nlX, nlX, nlX] 55 (0, 0)) ∧ (∀ z ∈ H, z.hi ≤ pr) ∧ (trash wr pl pr).1 = 7 ∧ pr < U2.heap.size) := by
        have b2 : Below U1.heap.size U1 U2 := by rw [← hU2]; exact (Below.refl _ _).alloc (Nat.le_refl _) _
        have e2 : U2.heap[pr]? = some (.cells #[nlX, nlX, nlX] 55 (0, 0)) := by rw [← hU2, ← hpr]; exact heap_alloc_new' _ _
        have hs := hb1.size
        refine ⟨HY.out.1.below (hb1.trans (b2.mono hs)), e2, fun z hz => by have := (HY.out.1.hs z hz).hi; omega, by rw [trash_new (by omega)], (Array.getElem?_eq_some_iff.1 e2).1⟩
      have hT := end_take H2.out.1 H2.out.2.1 H2.out.2.2.1 (by rw [HY.out.2]; exact hNb)
      clear hsa hb1
      go_upto_region 45 with fail
      try rw [hU2]
      try rw [hpr]
      clear hU2 hpr
      go_wp2_with fail
      refine hT.mono ?_
      rintro e W3 ⟨rfl, bv, sv, ev, hx⟩
      have hO := end_owned H2.out.1 H2.out.2.2.2.1 H2.out.2.2.2.2 hx (by rw [HY.out.2]; exact hNb)
      clear hT hx
      go_wp2_with fail
      refine hO.mono ?_
      rintro e W4 ⟨rfl, hb⟩
      clear hO
      go_wp2
      go_ret
      exact ⟨rfl, hb⟩

end Go.Proofs.YtdfdaambfihjaaaDoor.L
