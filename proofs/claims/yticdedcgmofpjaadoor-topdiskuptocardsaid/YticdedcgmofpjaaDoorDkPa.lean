import Derived.Test.YticdedcgmofpjaaDoorDkPu
namespace Go.Proofs.YticdedcgmofpjaaDoor.K
open Go.RowKit
set_option linter.unusedVariables false
set_option linter.unusedSimpArgs false

theorem infoBs : (Tryd.prog.info? 36).map (fun i => (i.zero, i.size, i.bytes)) = some (some (.slice none 0 0), 1, 24) := by kernel_rfl
theorem infoInt : (Tryd.prog.info? 3).map (fun i => (i.zero, i.size, i.bytes)) = some (some (.int .i64 0), 1, 8) := by kernel_rfl
theorem take_erase_same {α : Type} {L : List α} {k : Nat} {p : α} (h : L[k]? = some p) : (L.take (k + 1)).eraseIdx k = (L.take k).eraseIdx k := by
  have hl := (List.getElem?_eq_some_iff.mp h).1
  rw [List.take_add_one, h]
  rw [List.eraseIdx_append_of_length_le (by simp; omega), List.eraseIdx_of_length_le (l := L.take k) (by simp; omega)]
  simp [Nat.min_eq_left (Nat.le_of_lt hl)]
theorem take_erase_more {α : Type} {L : List α} {k i : Nat} {p : α} (h : L[k]? = some p) (hne : k ≠ i) : (L.take (k + 1)).eraseIdx i = (L.take k).eraseIdx i ++ [p] := by
  have hl := (List.getElem?_eq_some_iff.mp h).1
  rw [List.take_add_one, h]
  rcases Nat.lt_or_ge i k with q | q
  · rw [List.eraseIdx_append_of_lt_length (by simp; omega)]; rfl
  · rw [List.eraseIdx_of_length_le (by simp; omega), List.eraseIdx_of_length_le (by simp; omega)]; rfl
theorem aw_bel {w wr w4 : World} {v : Value} (hb : Below w.heap.size w wr) (hf : ∀ g, v.ownBlock = some g → w.heap.size ≤ g) (hg : wr.grownBy w4 v.ownBlock) : Below w.heap.size w w4 :=
  ⟨hg.os.trans hb.os, hg.tape.trans hb.tape, hg.output.trans hb.output, Nat.le_trans hb.size hg.size, fun j hj => (hg.block j (Nat.lt_of_lt_of_le hj hb.size) (fun e => by have := hf j e.symm; omega)).trans (hb.block j hj)⟩
theorem aw_keep {wr w4 : World} {v u : Value} {e e1 : TypeId} {s s1 m m1 : Nat} {xs ys : List Value} (h0 : wr.ownsRow 0 e s v m xs) (h1 : wr.ownsRow 0 e1 s1 u m1 ys) (he : e1 ≠ e) (hg : wr.grownBy w4 v.ownBlock) : w4.ownsRow 0 e1 s1 u m1 ys :=
  d_blk h1 (fun k hk => hg.block k (d_lt h1 k hk).2 (fun e2 => d_apart h1 h0 he hk e2.symm))
theorem aw_fr {w wr : World} {v v4 : Value} (hb : Below w.heap.size w wr) (hf : ∀ g, v.ownBlock = some g → w.heap.size ≤ g) (ht : v4.ownBlock = v.ownBlock ∨ ∃ g, v4.ownBlock = some g ∧ wr.heap.size ≤ g) : ∀ g, v4.ownBlock = some g → w.heap.size ≤ g := fun g hg => by
  rcases ht with e | ⟨g', e, hl⟩
  · exact hf g (e ▸ hg)
  · have : g' = g := Option.some.inj (e.symm.trans hg)
    have := hb.size
    omega
/-- The three rows that grow. -/
structure Aw (w wr : World) (Lo : List Fv) (v4 v5 v6 : Value) : Prop where
  a : wr.ownsRow 0 9 1 v4 Lo.length (Lo.map nmV)
  b : wr.ownsRow 0 36 1 v5 Lo.length (Lo.map (·.2))
  c : wr.ownsRow 0 3 1 v6 Lo.length (Lo.map sfV)
  fa : ∀ g, v4.ownBlock = some g → w.heap.size ≤ g
  fb : ∀ g, v5.ownBlock = some g → w.heap.size ≤ g
  fc : ∀ g, v6.ownBlock = some g → w.heap.size ≤ g
  bel : Below w.heap.size w wr
def Aj (w : World) (n i : Nat) (L : List Fv) (v4 v5 v6 v7 : Value) (wr : World) : Prop := ∃ k : Nat, v7 = .int .i64 k ∧ k ≤ n ∧ Aw w wr ((L.take k).eraseIdx i) v4 v5 v6

set_option maxHeartbeats 8000000 in
set_option maxRecDepth 100000 in
theorem away_any (w : World) (x i : Nat) (F : Nat → Prop) (D : Dk) (B : Nat) (h : Pm w x F D) (hk : D.Ok B) (hB : B ≤ 1099511627776) : Calls Tryd.prog 33 #[.pointer (some ⟨x, 0, none⟩), .int .i64 (i : Int)] w fun e w' => (∃ v, e = .returned v) ∧ Hid (Pm w' x (up F w) (D.fs' (D.fs.eraseIdx i)) ∧ Kd F w w') := by
  obtain ⟨vn, vb, vs, L, hc⟩ := h
  obtain ⟨n, hn⟩ : ∃ n, L.length = n := ⟨_, rfl⟩
  have hnb : n ≤ 1099511627776 := by have := hk.len; have := hc.len; omega
  obtain ⟨an, cn, hvn⟩ := d_shape hc.rn
  obtain ⟨ab, cb, hvb⟩ := d_shape hc.rb
  obtain ⟨as', cs, hvs⟩ := d_shape hc.rs
  rw [hn] at hvn hvb hvs
  subst hvn hvb hvs
  have HC : Hid (Pc w x F D (.slice an n cn) (.slice ab n cb) (.slice as' n cs) L ∧ L.length = n) := ⟨hc, hn⟩
  obtain ⟨i0, hi0, hs0, hs1, hs2⟩ := info_partsD infoStr
  obtain ⟨i1, hi1, hb0, hb1, hb2⟩ := info_partsD infoBs
  obtain ⟨i2, hi2, hn0, hn1, hn2⟩ := info_partsD infoInt
  clear hc hn hk
  go_enter Tryd.func33, Tryd.ntmps33
  go_wp2
  go_loopw [4, 5, 6, 7] (fun v4 v5 v6 v7 wr => Aj w n i L v4 v5 v6 v7 wr) (fun _ _ _ v _ => n - (intOf v).toNat)
  case atStart => exact ⟨0, rfl, by omega, ⟨World.ownsRow_nil _ _ _ _, World.ownsRow_nil _ _ _ _, World.ownsRow_nil _ _ _ _, fun g hg => (by cases hg), fun g hg => (by cases hg), fun g hg => (by cases hg), Below.refl _ _⟩⟩
  case round =>
    obtain ⟨k, rfl, hk, hA⟩ := hrel
    have HA : Hid (Aw w wr ((L.take k).eraseIdx i) u4 u5 u6) := hA
    have hcr := HC.out.1.same (w' := wr) (fun j _ hj => hA.bel.block j hj)
    have c0 : wr.cell? ⟨x, 0, none⟩ = some (.slice an n cn) := hcr.c 0
    have c1 : wr.cell? ⟨x, 1, none⟩ = some (.slice ab n cb) := hcr.c 1
    have c2 : wr.cell? ⟨x, 2, none⟩ = some (.slice as' n cs) := hcr.c 2
    by_cases hkn : k = n
    · have hkn2 := hkn.symm
      clear hkn
      subst hkn2
      have hz : ¬ (n : Int) < (n : Int) := by omega
      have z0 := hcr.z 0
      have z1 := hcr.z 1
      have z2 := hcr.z 2
      have hx1 := hcr.box
      have HR : Hid (∀ V : World, V.heap = (((wr.setCell ⟨x, 0, none⟩ u4).setCell ⟨x, 1, none⟩ u5).setCell ⟨x, 2, none⟩ u6).heap → V.os = wr.os → V.tape = wr.tape → V.output = wr.output → Pm V x (up F w) (D.fs' (D.fs.eraseIdx i)) ∧ Kd F w V) := fun V hV h1 h2 h3 => by
        have e1 : (wr.setCell ⟨x, 0, none⟩ u4).heap[x]? = _ := heap_setCell_same wr x 0 _ _ _ hx1
        have e2 : ((wr.setCell ⟨x, 0, none⟩ u4).setCell ⟨x, 1, none⟩ u5).heap[x]? = _ := heap_setCell_same _ x 1 _ _ _ e1
        have e3 : (((wr.setCell ⟨x, 0, none⟩ u4).setCell ⟨x, 1, none⟩ u5).setCell ⟨x, 2, none⟩ u6).heap[x]? = _ := heap_setCell_same _ x 2 _ _ _ e2
        have ho : ∀ k, k ≠ x → V.heap[k]? = wr.heap[k]? := fun k hk => by
          rw [hV]
          exact (heap_setCell_other _ _ _ _ hk).trans ((heap_setCell_other _ _ _ _ hk).trans (heap_setCell_other _ _ _ _ hk))
        have hLn : (L.take n).eraseIdx i = L.eraseIdx i := by rw [List.take_of_length_le (by have := HC.out.2; omega)]
        have hA := HA.out
        rw [hLn] at hA
        have hxl := HC.out.1.xlt
        refine ⟨⟨u4, u5, u6, L.eraseIdx i, by rw [map_eraseIdx, HC.out.1.map]; rfl, by rw [hV, e3]; rfl, d_blk hA.a (fun g hg => ho g (fun e => by have := hA.fa g hg; omega)), d_blk hA.b (fun g hg => ho g (fun e => by have := hA.fb g hg; omega)), d_blk hA.c (fun g hg => ho g (fun e => by have := hA.fc g hg; omega)), fun j q hq => ?_, fun j j' q u g hj hk hg1 hg2 => ?_, .inl HC.out.1.fx, fun g hg => .inr (hA.fa g hg), fun g hg => .inr (hA.fb g hg), fun g hg => .inr (hA.fc g hg), fun j q g hj hg => ?_⟩, ?_⟩
        · obtain ⟨m, hm, _⟩ := erase_get hq
          have hb := hcr.byt m q hm
          exact d_blk hb (fun g hg => ho g (fun e => d_box hb hx1 (by decide) (by rw [← e]; exact hg)))
        · obtain ⟨m, hm, em⟩ := erase_get hj
          obtain ⟨m', hm', em'⟩ := erase_get hk
          have := HC.out.1.dis m m' q u g hm hm' hg1 hg2
          subst this
          rw [em] at em'
          split at em' <;> split at em' <;> omega
        · obtain ⟨m, hm, _⟩ := erase_get hj
          exact .inl (HC.out.1.fy m q g hm hg)
        · have hsz : V.heap.size = wr.heap.size := by rw [hV]; simp [World.setCell]
          exact (Kd.below hA.bel).trans ⟨h1, h2, h3, by omega, fun k hk hn => ho k (fun e => hn (e ▸ HC.out.1.fx))⟩
      clear hcr hA hx1
      obtain ⟨a4, d4, hu4⟩ := d_shape HA.out.a
      obtain ⟨a5, d5, hu5⟩ := d_shape HA.out.b
      obtain ⟨a6, d6, hu6⟩ := d_shape HA.out.c
      generalize ((L.take n).eraseIdx i).length = m at hu4 hu5 hu6
      clear HA
      subst hu4 hu5 hu6
      go_wp2
      refine bodyPost_end (v := .tuple #[]) (by simp [results, Tryd.results33, go_sem]) rfl ?_
      exact ⟨⟨_, rfl⟩, HR.out _ rfl rfl rfl rfl⟩
    · have hz : (k : Int) < (n : Int) := by omega
      have hk0 : (0 : Int) ≤ (k : Int) := by omega
      have hwk : IntKind.i64.wrap ((k : Int) + 1) = (k : Int) + 1 := by rw [IntKind.wrap_i64]; omega
      obtain ⟨p, hp⟩ : ∃ p, L[k]? = some p := ⟨_, List.getElem?_eq_getElem (by rw [HC.out.2]; omega)⟩
      obtain ⟨gn, cn', hvn, _, kn, _⟩ := row_cell hcr.rn (i := k) (u := .string p.1.nm) (by rw [List.getElem?_map, hp]; rfl)
      obtain ⟨gb, cb', hvb, _, kb, _⟩ := row_cell hcr.rb (i := k) (u := p.2) (by rw [List.getElem?_map, hp]; rfl)
      obtain ⟨gs, cs', hvs, _, ks, _⟩ := row_cell hcr.rs (i := k) (u := .int .i64 p.1.sf) (by rw [List.getElem?_map, hp]; rfl)
      obtain ⟨rfl, _, rfl⟩ : an = some ⟨gn, 0, none⟩ ∧ n = L.length ∧ cn = cn' := by simpa using hvn
      obtain ⟨rfl, _, rfl⟩ : ab = some ⟨gb, 0, none⟩ ∧ n = L.length ∧ cb = cb' := by simpa using hvb
      obtain ⟨rfl, _, rfl⟩ : as' = some ⟨gs, 0, none⟩ ∧ n = L.length ∧ cs = cs' := by simpa using hvs
      by_cases hki : k = i
      · have HE : Hid (Aj w n i L u4 u5 u6 (.int .i64 ((k : Int) + 1)) wr) := ⟨k + 1, by simp, by omega, by have h9 := HA.out; rw [← hki] at h9 ⊢; rw [take_erase_same hp]; exact h9⟩
        have hne : ((k : Int) != (i : Int)) = false := by simp [hki]
        clear hp hvn hvb hvs hA hcr kn kb ks
        subst hki
        go_wp2
        exact ⟨HE.out, by simp [intOf]; omega⟩
      · have hne : ((k : Int) != (i : Int)) = true := by simp; omega
        obtain ⟨ap, cp, hpv⟩ := d_shape (hcr.byt k p hp)
        obtain ⟨⟨nm, bs, sf⟩, pv⟩ := p
        simp only at kn kb ks hpv
        subst hpv
        obtain ⟨m, hm⟩ : ∃ m, ((L.take k).eraseIdx i).length = m := ⟨_, rfl⟩
        have hmb : m ≤ 1099511627776 := by
          have h1 : ((L.take k).eraseIdx i).length ≤ (L.take k).length := List.length_eraseIdx_le _ _
          rw [List.length_take] at h1
          omega
        obtain ⟨a4, d4, hu4⟩ := d_shape hA.a
        obtain ⟨a5, d5, hu5⟩ := d_shape hA.b
        obtain ⟨a6, d6, hu6⟩ := d_shape hA.c
        rw [hm] at hu4 hu5 hu6
        subst hu4 hu5 hu6
        have HM : Hid (((L.take k).eraseIdx i).length = m ∧ (L.take (k + 1)).eraseIdx i = (L.take k).eraseIdx i ++ [((⟨nm, bs, sf⟩ : Fl), Value.slice ap bs.length cp)]) := ⟨hm, take_erase_more hp hki⟩
        have HRow : Hid (∀ V : World, Below w.heap.size w V → V.cell? ⟨x, 1, none⟩ = some (.slice (some ⟨gb, 0, none⟩) n cb) ∧ V.cell? ⟨x, 2, none⟩ = some (.slice (some ⟨gs, 0, none⟩) n cs) ∧ V.cell? ⟨gb, k, none⟩ = some (.slice ap bs.length cp) ∧ V.cell? ⟨gs, k, none⟩ = some (.int .i64 sf)) := fun V hV => by
          have hcv := HC.out.1.same (w' := V) (fun j _ hj => hV.block j hj)
          obtain ⟨_, _, e1, _, q1, _⟩ := row_cell hcv.rb (i := k) (u := .slice ap bs.length cp) (by rw [List.getElem?_map, hp]; rfl)
          obtain ⟨_, _, e2, _, q2, _⟩ := row_cell hcv.rs (i := k) (u := .int .i64 sf) (by rw [List.getElem?_map, hp]; rfl)
          cases e1
          cases e2
          exact ⟨hcv.c 1, hcv.c 2, q1, q2⟩
        clear hp hvn hvb hvs hA hcr hm kb ks c1 c2
        go_upto_region 8 with (first
          | (at_builtin; refine wpList_append_own_at _ rfl _ _ 31 rfl 0 9 i0 (.string ByteArray.empty) 1 16 Tryd.underlying31 hi0 hs0 hs1 hs2 rfl (by decide) (.slice a4 m d4) ((L.take k).eraseIdx i).length (((L.take k).eraseIdx i).map nmV) rfl (World.ownsRow.alloc HA.out.a _) ⟨wr.heap.size, 0, none⟩ 1 1 [.string nm] rfl rfl (one_newD _ _ _) (by simp [Value.oneCell']) (by unfold maxLen; have := HM.out.1; omega) (by have := HM.out.1; omega) (by simp) ?_
             intro v4 w4 o4 g4 l4 t4; clear l4
             have H4 : Hid (w4.ownsRow 0 9 1 v4 (((L.take k).eraseIdx i).length + 1) (((L.take k).eraseIdx i).map nmV ++ [.string nm]) ∧ wr.grownBy w4 (Value.slice a4 m d4).ownBlock ∧ (v4.ownBlock = (Value.slice a4 m d4).ownBlock ∨ ∃ g, v4.ownBlock = some g ∧ wr.heap.size ≤ g)) := ⟨o4, (World.grownBy_alloc wr _ _).trans g4, t4.imp id (fun e => ⟨_, e, by simp⟩)⟩
             clear o4 g4 t4))
        have HB4 : Hid (Below w.heap.size w w4 ∧ w4.ownsRow 0 36 1 (.slice a5 m d5) ((L.take k).eraseIdx i).length (((L.take k).eraseIdx i).map (·.2)) ∧ w4.ownsRow 0 3 1 (.slice a6 m d6) ((L.take k).eraseIdx i).length (((L.take k).eraseIdx i).map sfV)) :=
          ⟨aw_bel HA.out.bel HA.out.fa H4.out.2.1, aw_keep HA.out.a HA.out.b (by decide) H4.out.2.1, aw_keep HA.out.a HA.out.c (by decide) H4.out.2.1⟩
        obtain ⟨c1, _, kb, _⟩ := HRow.out w4 HB4.out.1
        clear c0 kn
        go_upto_region 9 with (first
          | (at_builtin; refine wpList_append_own_at _ rfl _ _ 32 rfl 0 36 i1 (.slice none 0 0) 1 24 Tryd.underlying32 hi1 hb0 hb1 hb2 rfl (by decide) (.slice a5 m d5) ((L.take k).eraseIdx i).length (((L.take k).eraseIdx i).map (·.2)) rfl (World.ownsRow.alloc HB4.out.2.1 _) ⟨w4.heap.size, 0, none⟩ 1 1 [.slice ap bs.length cp] rfl rfl (one_newD _ _ _) (by simp [Value.oneCell']) (by unfold maxLen; have := HM.out.1; omega) (by have := HM.out.1; omega) (by simp) ?_
             intro v5 w5 o5 g5 l5 t5; clear l5
             have H5 : Hid (w5.ownsRow 0 36 1 v5 (((L.take k).eraseIdx i).length + 1) (((L.take k).eraseIdx i).map (·.2) ++ [.slice ap bs.length cp]) ∧ w4.grownBy w5 (Value.slice a5 m d5).ownBlock ∧ (v5.ownBlock = (Value.slice a5 m d5).ownBlock ∨ ∃ g, v5.ownBlock = some g ∧ w4.heap.size ≤ g)) := ⟨o5, (World.grownBy_alloc w4 _ _).trans g5, t5.imp id (fun e => ⟨_, e, by simp⟩)⟩
             clear o5 g5 t5))
        have HB5 : Hid (Below w.heap.size w w5 ∧ w5.ownsRow 0 9 1 v4 (((L.take k).eraseIdx i).length + 1) (((L.take k).eraseIdx i).map nmV ++ [.string nm]) ∧ w5.ownsRow 0 3 1 (.slice a6 m d6) ((L.take k).eraseIdx i).length (((L.take k).eraseIdx i).map sfV)) :=
          ⟨aw_bel HB4.out.1 HA.out.fb H5.out.2.1, aw_keep HB4.out.2.1 H4.out.1 (by decide) H5.out.2.1, aw_keep HB4.out.2.1 HB4.out.2.2 (by decide) H5.out.2.1⟩
        obtain ⟨_, c2, _, ks⟩ := HRow.out w5 HB5.out.1
        clear c1 kb
        go_upto_region 5 with (first
          | (at_builtin; refine wpList_append_own_at _ rfl _ _ 33 rfl 0 3 i2 (.int .i64 0) 1 8 Tryd.underlying33 hi2 hn0 hn1 hn2 rfl (by decide) (.slice a6 m d6) ((L.take k).eraseIdx i).length (((L.take k).eraseIdx i).map sfV) rfl (World.ownsRow.alloc HB5.out.2.2 _) ⟨w5.heap.size, 0, none⟩ 1 1 [.int .i64 sf] rfl rfl (one_newD _ _ _) (by simp [Value.oneCell']) (by unfold maxLen; have := HM.out.1; omega) (by have := HM.out.1; omega) (by simp) ?_
             intro v6 w6 o6 g6 l6 t6; clear l6
             have H6 : Hid (w6.ownsRow 0 3 1 v6 (((L.take k).eraseIdx i).length + 1) (((L.take k).eraseIdx i).map sfV ++ [.int .i64 sf]) ∧ w5.grownBy w6 (Value.slice a6 m d6).ownBlock ∧ (v6.ownBlock = (Value.slice a6 m d6).ownBlock ∨ ∃ g, v6.ownBlock = some g ∧ w5.heap.size ≤ g)) := ⟨o6, (World.grownBy_alloc w5 _ _).trans g6, t6.imp id (fun e => ⟨_, e, by simp⟩)⟩
             clear o6 g6 t6))
        have HE : Hid (Aj w n i L v4 v5 v6 (.int .i64 ((k : Int) + 1)) w6) := by
          refine ⟨k + 1, by simp, by omega, ?_⟩
          rw [HM.out.2]
          refine ⟨?_, ?_, ?_, aw_fr HA.out.bel HA.out.fa H4.out.2.2, aw_fr HB4.out.1 HA.out.fb H5.out.2.2, aw_fr HB5.out.1 HA.out.fc H6.out.2.2, aw_bel HB5.out.1 HA.out.fc H6.out.2.1⟩
          · rw [List.length_append, List.map_append]; exact aw_keep HB5.out.2.2 HB5.out.2.1 (by decide) H6.out.2.1
          · rw [List.length_append, List.map_append]; exact aw_keep HB5.out.2.2 H5.out.1 (by decide) H6.out.2.1
          · rw [List.length_append, List.map_append]; exact H6.out.1
        clear HM HRow HB4 HB5 H4 H5 H6 HA c2 ks
        go_wp2
        exact ⟨HE.out, by simp [intOf]; omega⟩

end Go.Proofs.YticdedcgmofpjaaDoor.K
