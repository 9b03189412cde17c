import Derived.Test.YtdfdaambfihjaaaDoorRx2
namespace Go.Proofs.YtdfdaambfihjaaaDoor
open Go.RowKit Go.Shelf
set_option linter.unusedVariables false
set_option linter.unusedSimpArgs false

/-- A row of extensions of its own. -/
def EOwn (w : World) (base : Nat) (v : Value) (L : List Xr) : Prop := w.ownsRow base 93 2 v L.length (L.flatMap Xr.cells)
theorem EOwn.shape {w : World} {base : Nat} {v : Value} {L : List Xr} (h : EOwn w base v L) : ∃ a c, v = .slice a L.length c := by
  obtain ⟨_, ⟨e, e0⟩ | ⟨g, cap, cur, e, _⟩⟩ := h
  · exact ⟨none, 0, by rw [e, e0]⟩
  · exact ⟨_, _, e⟩
theorem EOwn.lt {w : World} {base : Nat} {v : Value} {L : List Xr} (h : EOwn w base v L) : ∀ g, v.ownBlock = some g → base ≤ g ∧ g < w.heap.size := World.ownsRow.lt h
theorem EOwn.len2 {W : World} {base n cap : Nat} {a : Option Addr} {L : List Xr} (h : EOwn W base (.slice a n cap) L) : L.length = n := by
  obtain ⟨a', c', hv⟩ := h.shape
  simp only [Value.slice.injEq] at hv; exact hv.2.1.symm
theorem EOwn.put2 {W : World} {base g cap n k : Nat} {L : List Xr} (h : EOwn W base (.slice (some ⟨g, 0, none⟩) n cap) L) (y : Xr) : EOwn ((W.setCell ⟨g, k * 2, none⟩ (.int .i64 y.tag)).setCell ⟨g, k * 2 + 1, none⟩ y.val) base (.slice (some ⟨g, 0, none⟩) n cap) (L.set k y) := by
  have hn := h.len2
  subst hn
  have h1 := (World.ownsRow.stored h (k * 2) (.int .i64 y.tag)).1
  have h2 := (World.ownsRow.stored h1 (k * 2 + 1) y.val).1
  rw [xc_put] at h2
  unfold EOwn
  rw [List.length_set]
  exact h2
theorem EOwn.cells2 {W : World} {base g cap n k : Nat} {L : List Xr} {p : Xr} (h : EOwn W base (.slice (some ⟨g, 0, none⟩) n cap) L) (hk : L[k]? = some p) : W.cell? ⟨g, k * 2, none⟩ = some (.int .i64 p.tag) ∧ W.cell? ⟨g, k * 2 + 1, none⟩ = some p.val ∧ W.frozen? ⟨g, k * 2, none⟩ = false ∧ W.frozen? ⟨g, k * 2 + 1, none⟩ = false := by
  have hn := h.len2
  subst hn
  have hkl : k < L.length := (List.getElem?_eq_some_iff.mp hk).1
  obtain ⟨q1, q2⟩ := xc_get2 L k p hk
  exact ⟨(World.ownsRow.cellAt h _ (by omega)).trans q1, (World.ownsRow.cellAt h _ (by omega)).trans q2, World.ownsRow.frozenAt h _, World.ownsRow.frozenAt h _⟩
theorem EOwn.some2 {w : World} {base : Nat} {v : Value} {l : List Xr} (h : EOwn w base v l) (hn : 0 < l.length) : ∃ g cap, v = .slice (some ⟨g, 0, none⟩) l.length cap := C.own_some h hn
theorem EOwn.blk2 {w w' : World} {base : Nat} {v : Value} {l : List Xr} (h : EOwn w base v l) (hb : ∀ g, v.ownBlock = some g → w'.heap[g]? = w.heap[g]?) : EOwn w' base v l := C.own_blk2 h hb
theorem EOwn.app3 {w : World} {base : Nat} {v : Value} {l : List Xr} {p : Xr} (h : w.ownsRow base 93 2 v (l.length + 1) (l.flatMap Xr.cells ++ [.int .i64 p.tag, p.val])) : EOwn w base v (l ++ [p]) := by
  unfold EOwn
  rw [List.length_append, List.flatMap_append]
  exact h
theorem oe_rows : (Tryd.prog.info? 33).map (fun i => (i.zero, i.size, i.bytes)) = some (some (.slice none 0 0), 1, 24) := by kernel_rfl
def mkE (i : Nat) : Xr := ⟨-1 - (i : Int), none, 0, []⟩
/-- Rows of spans: their values, what they hold, whose their blocks are. -/
structure Loe (own : Nat → Nat) (w : World) (os : List Value) (Cs : Nat → List Xr) (c : Nat) : Prop where
  kr : ∀ (j : Nat) v, c ≤ j → os[j]? = some v → EOwn w 0 v (Cs j)
  tk : ∀ (j : Nat) v g, c ≤ j → os[j]? = some v → v.ownBlock = some g → own g = 10 + j
section
variable {own own' : Nat → Nat} {w w' : World} {os : List Value} {Cs : Nat → List Xr} {c : Nat}
theorem Loe.keep {row : Option Nat} {t : Nat} (h : Loe own w os Cs c) (hg : w.grownBy w' row) (ho : ∀ g, g < w.heap.size → own' g = own g) (hr : ∀ g, row = some g → own g = t) (hc : ∀ j, c ≤ j → t ≠ 10 + j) : Loe own' w' os Cs c :=
  ⟨fun j v hj hv => (h.kr j v hj hv).blk2 (fun g hgb => hg.block g ((h.kr j v hj hv).lt g hgb).2 (fun e => hc j hj ((hr g e.symm).symm.trans (h.tk j v g hj hv hgb)))), fun j v g hj hv hgb => (ho g ((h.kr j v hj hv).lt g hgb).2).trans (h.tk j v g hj hv hgb)⟩
theorem Loe.store (h : Loe own w os Cs 0) {j k g n cap : Nat} (hj : os[j]? = some (.slice (some ⟨g, 0, none⟩) n cap)) (y : Xr) :
    Loe own ((w.setCell ⟨g, k * 2, none⟩ (.int .i64 y.tag)).setCell ⟨g, k * 2 + 1, none⟩ y.val) os (fun q => if q = j then (Cs j).set k y else Cs q) 0 := by
  refine ⟨fun q v hq hv => ?_, h.tk⟩
  by_cases e : q = j
  · subst e
    rw [hj] at hv
    cases hv
    show EOwn _ _ _ (if q = q then _ else _)
    rw [if_pos rfl]
    exact (h.kr q _ hq hj).put2 y
  · show EOwn _ _ _ (if q = j then _ else _)
    rw [if_neg e]
    exact (h.kr q v hq hv).blk2 (fun g' hg' => set2_other (fun e2 => by
      have h1 := h.tk q v g' hq hv hg'
      have h2 := h.tk j _ g (Nat.zero_le _) hj rfl
      rw [e2] at h1
      omega))
theorem Loe.next (h : Loe own w os Cs c) : Loe own w os Cs (c + 1) := ⟨fun j v hj => h.kr j v (by omega), fun j v g hj => h.tk j v g (by omega)⟩
end
/-- The row of what has grown. -/
structure Gae (own : Nat → Nat) (w : World) (vL : Value) (VL : List Value) (len : Nat → Nat) : Prop where
  vl : w.ownsRow 0 33 1 vL VL.length VL
  tvl : ∀ g, vL.ownBlock = some g → own g = 5
  kr : ∀ (j : Nat) v, VL[j]? = some v → EOwn w 0 v (List.replicate (len j + 4) (mkE j))
  tk : ∀ (j : Nat) v g, VL[j]? = some v → v.ownBlock = some g → own g = 10 + j
section
variable {own own' : Nat → Nat} {w w' : World} {vL : Value} {VL : List Value} {len : Nat → Nat}
theorem Gae.keep {row : Option Nat} {t : Nat} (h : Gae own w vL VL len) (hg : w.grownBy w' row) (ho : ∀ g, g < w.heap.size → own' g = own g) (hr : ∀ g, row = some g → own g = t) (h5 : t ≠ 5) (hc : ∀ j, j < VL.length → t ≠ 10 + j) : Gae own' w' vL VL len :=
  ⟨C.own_blk2 h.vl (fun g hgb => hg.block g (World.ownsRow.lt h.vl g hgb).2 (fun e => h5 ((hr g e.symm).symm.trans (h.tvl g hgb)))), fun g hgb => (ho g (World.ownsRow.lt h.vl g hgb).2).trans (h.tvl g hgb),
    fun j v hv => (h.kr j v hv).blk2 (fun g hgb => hg.block g ((h.kr j v hv).lt g hgb).2 (fun e => hc j (List.getElem?_eq_some_iff.mp hv).1 ((hr g e.symm).symm.trans (h.tk j v g hv hgb)))), fun j v g hv hgb => (ho g ((h.kr j v hv).lt g hgb).2).trans (h.tk j v g hv hgb)⟩
theorem Gae.push {w6 : World} {v6 u : Value} (h : Gae own w vL VL len) (hg : w.grownBy w6 vL.ownBlock) (hv6 : w6.ownsRow 0 33 1 v6 (VL.length + 1) (VL ++ [u])) (hl6 : v6.ownBlock = vL.ownBlock ∨ ∃ g, v6.ownBlock = some g ∧ w.heap.size ≤ g)
    (hu : EOwn w 0 u (List.replicate (len VL.length + 4) (mkE VL.length))) (ht : ∀ g, u.ownBlock = some g → own g = 10 + VL.length) : Gae (fun g => if g < w.heap.size then own g else 5) w6 v6 (VL ++ [u]) len := by
  have ho : ∀ g, g < w.heap.size → (if g < w.heap.size then own g else 5) = own g := fun g hg => if_pos hg
  refine ⟨by rw [List.length_append]; exact hv6, fun g hgb => ?_, fun j v hv => ?_, fun j v g hv hgb => ?_⟩
  · show (if g < w.heap.size then own g else 5) = 5
    rcases hl6 with q | ⟨g', q, q2⟩
    · rw [ho g (World.ownsRow.lt h.vl g (q ▸ hgb)).2]; exact h.tvl g (q ▸ hgb)
    · have e2 : g' = g := Option.some.inj (q.symm.trans hgb)
      rw [if_neg (by omega)]
  · rcases Nat.lt_or_ge j VL.length with q | q
    · rw [List.getElem?_append_left q] at hv
      exact (h.kr j v hv).blk2 (fun g hgb => hg.block g ((h.kr j v hv).lt g hgb).2 (fun e => by have := h.tvl g e.symm; have := h.tk j v g hv hgb; omega))
    · have e : j = VL.length := by
        have := (List.getElem?_eq_some_iff.mp hv).1
        simp at this; omega
      subst e
      rw [List.getElem?_append_right (Nat.le_refl _)] at hv
      simp at hv
      subst hv
      exact hu.blk2 (fun g hgb => hg.block g (hu.lt g hgb).2 (fun e => by have := h.tvl g e.symm; have := ht g hgb; omega))
  · rcases Nat.lt_or_ge j VL.length with q | q
    · rw [List.getElem?_append_left q] at hv
      exact (ho g ((h.kr j v hv).lt g hgb).2).trans (h.tk j v g hv hgb)
    · have e : j = VL.length := by
        have := (List.getElem?_eq_some_iff.mp hv).1
        simp at this; omega
      subst e
      rw [List.getElem?_append_right (Nat.le_refl _)] at hv
      simp at hv
      subst hv
      exact (ho g (hu.lt g hgb).2).trans (ht g hgb)
end
theorem all_marksE {l : List Xr} {n : Nat} {y : Xr} (hl : l.length = n) (h : ∀ q, q < n → l[q]? = some y) : l = List.replicate n y := by
  apply List.ext_getElem?
  intro q
  rw [List.getElem?_replicate]
  by_cases e : q < n
  · rw [if_pos e]; exact h q e
  · rw [if_neg e]; exact List.getElem?_eq_none (by omega)

set_option maxHeartbeats 32000000 in
set_option maxRecDepth 100000 in
theorem ownedExts_any (al : Option Addr) (cl : Nat) (own : Nat → Nat) (os : List Value) (C0 : Nat → List Xr) (w : World) (hLo : Loe own w os C0 0) (hNm : C.Nam own w al os) (hn : os.length ≤ 33554432) (hlc : ∀ j, (C0 j).length ≤ 1048600) :
    Calls Tryd.prog 51 #[.slice al os.length cl] w fun e w' => e = .returned (.bool true) ∧ C.Kt own w w' := by
  obtain ⟨m, hm⟩ : ∃ m, os.length = m := ⟨_, rfl⟩
  have HM : Hid (os.length = m) := hm
  have HNm : Hid (C.Nam own w al os) := hNm
  have HLo0 : Hid (Loe own w os C0 0) := hLo
  rw [hm] at hn ⊢
  obtain ⟨len, hlen⟩ : ∃ f : Nat → Nat, (fun j => (C0 j).length) = f := ⟨_, rfl⟩
  have HLen : Hid (∀ j, (C0 j).length = len j) := fun j => by rw [← hlen]
  have HLb : Hid (∀ j, len j ≤ 1048600) := fun j => by rw [← hlen]; exact hlc j
  obtain ⟨i1, hi1, hy0, hy1, hy2⟩ := info_parts oe_rows
  obtain ⟨i0, hi0, hz0, hz1, hz2⟩ := info_parts Tryd.info_ext
  clear hLo hNm hm hlen hlc
  go_enter Tryd.func51, Tryd.ntmps51
  go_wp2
  go_loopw [3] (fun v wr => ∃ (j : Nat) (Cs : Nat → List Xr), v = .int .i64 j ∧ j ≤ m ∧ Loe own wr os Cs 0 ∧ (∀ q, (Cs q).length = len q) ∧ (∀ q, q < j → Cs q = List.replicate (len q) (mkE q)) ∧ C.Kt own w wr) (fun v _ => m - (intOf v).toNat)
  case atStart => exact ⟨0, C0, rfl, by omega, HLo0.out, HLen.out, fun q hq => by omega, C.Kt.refl _ _⟩
  case round =>
    clear HLo0
    obtain ⟨j, Cs, rfl, hj, hLo, hCl, hCm, hK⟩ := hrel
    have HLo : Hid (Loe own wr os Cs 0) := hLo
    have HCl : Hid (∀ q, (Cs q).length = len q) := hCl
    have HCm : Hid (∀ q, q < j → Cs q = List.replicate (len q) (mkE q)) := hCm
    have HK : Hid (C.Kt own w wr) := hK
    clear hLo hCl hCm hK
    by_cases hjm : j = m
    · subst hjm
      have hz : ¬ (j : Int) < (j : Int) := by omega
      have HL1 : Hid (Loe own wr os (fun q => List.replicate (len q) (mkE q)) 0) := by
        refine ⟨fun q v hq hv => ?_, HLo.out.tk⟩
        have := HLo.out.kr q v hq hv
        rw [HCm.out q (by have := (List.getElem?_eq_some_iff.mp hv).1; have := HM.out; omega)] at this
        exact this
      clear HLo HCl HCm
      go_wp2
      go_loopw [5, 6] (fun v5 v6 wr => ∃ (i : Nat) (VL : List Value) (own4 : Nat → Nat), v6 = .int .i64 i ∧ i ≤ j ∧ VL.length = i ∧ Loe own4 wr os (fun q => List.replicate (len q) (mkE q)) i ∧ Gae own4 wr v5 VL len ∧ C.Kt own w wr ∧ (∀ g, g < w.heap.size → own4 g = own g)) (fun _ v _ => j - (intOf v).toNat)
      case atStart => exact ⟨0, [], own, rfl, by omega, rfl, HL1.out, ⟨World.ownsRow_nil _ _ _ _, fun g hg => by simp [Value.ownBlock] at hg, fun q v hv => by simp at hv, fun q v g hv => by simp at hv⟩, HK.out, fun _ _ => rfl⟩
      case round =>
        clear HL1 HK
        obtain ⟨i, VL, own4, rfl, hi, hVl, hLo, hGa, hK, ho4⟩ := hrel
        have HVl : Hid (VL.length = i) := hVl
        obtain ⟨aL, cL, hu5⟩ := C.own_shape hGa.vl
        rw [hVl] at hu5
        subst hu5
        have HLo : Hid (Loe own4 wr os (fun q => List.replicate (len q) (mkE q)) i) := hLo
        have HGa : Hid (Gae own4 wr (.slice aL i cL) VL len) := hGa
        have HK : Hid (C.Kt own w wr) := hK
        have HO4 : Hid (∀ g, g < w.heap.size → own4 g = own g) := ho4
        clear hVl hLo hGa hK ho4
        by_cases hij : i = j
        · subst hij
          have hzz : ¬ (i : Int) < (i : Int) := by omega
          obtain ⟨Z, hZ⟩ : ∃ Z, wr = Z := ⟨_, rfl⟩
          rw [hZ] at HGa HK ⊢
          clear hZ HLo
          go_wp2
          go_loopw [9] (fun v9 wr => ∃ p : Nat, v9 = .int .i64 p ∧ p ≤ i ∧ wr = Z) (fun v _ => i - (intOf v).toNat)
          case atStart => exact ⟨0, rfl, by omega, rfl⟩
          case round =>
            obtain ⟨p, rfl, hp, rfl⟩ := hrel
            by_cases hpm : p = i
            · subst hpm
              have hz8 : ¬ (p : Int) < (p : Int) := by omega
              go_wp2
              go_ret
              exact ⟨rfl, HK.out⟩
            · have hz8 : (p : Int) < (i : Int) := by omega
              have hwp : IntKind.i64.wrap ((p : Int) + 1) = (p : Int) + 1 := by rw [IntKind.wrap_i64]; omega
              have hwM : IntKind.i64.wrap (-1 - (p : Int)) = -1 - (p : Int) := by rw [IntKind.wrap_i64]; omega
              obtain ⟨u, hu⟩ : ∃ v, VL[p]? = some v := ⟨_, List.getElem?_eq_getElem (by rw [HVl.out]; omega)⟩
              have hkr := HGa.out.kr p u hu
              obtain ⟨gL, cL', eL⟩ := C.own_some HGa.out.vl (by rw [HVl.out]; omega)
              obtain ⟨rfl, hmm, rfl⟩ : aL = some ⟨gL, 0, none⟩ ∧ i = VL.length ∧ cL = cL' := by simpa using eL
              have e8 : wr.cell? ⟨gL, p, none⟩ = some u := by
                have h7 := HGa.out.vl
                rw [HVl.out] at h7
                exact (World.ownsRow.cellAt h7 p (by omega)).trans hu
              obtain ⟨a8, c8, rfl⟩ := hkr.shape
              obtain ⟨n, hnn⟩ : ∃ n, (List.replicate (len p + 4) (mkE p)).length = n := ⟨_, rfl⟩
              have hnb : n ≤ 1048604 := by rw [← hnn, List.length_replicate]; have := HLb.out p; omega
              rw [hnn] at e8 hkr
              have HKr : Hid (EOwn wr 0 (.slice a8 n c8) (List.replicate (len p + 4) (mkE p))) := hkr
              have HNn : Hid ((List.replicate (len p + 4) (mkE p)).length = n) := hnn
              clear hu hkr eL hmm hnn
              go_wp2
              go_loopw [10] (fun v10 wr' => ∃ q : Nat, v10 = .int .i64 q ∧ q ≤ n ∧ wr' = wr) (fun v _ => n - (intOf v).toNat)
              case atStart => exact ⟨0, rfl, by omega, rfl⟩
              case round =>
                obtain ⟨q, rfl, hq, hwr⟩ := hrel
                subst hwr
                by_cases hqn : q = n
                · subst hqn
                  have hz9 : ¬ (q : Int) < (q : Int) := by omega
                  go_wp2
                  exact ⟨⟨p + 1, by simp, by omega, by first | rfl | trivial⟩, by simp [intOf]; omega⟩
                · have hz9 : (q : Int) < (n : Int) := by omega
                  have hwq : IntKind.i64.wrap ((q : Int) + 1) = (q : Int) + 1 := by rw [IntKind.wrap_i64]; omega
                  obtain ⟨g9, c9, e9⟩ := HKr.out.some2 (by rw [HNn.out]; omega)
                  obtain ⟨rfl, hmm, rfl⟩ : a8 = some ⟨g9, 0, none⟩ ∧ n = (List.replicate (len p + 4) (mkE p)).length ∧ c8 = c9 := by simpa using e9
                  obtain ⟨t0, t1, _, _⟩ := HKr.out.cells2 (k := q) (p := mkE p) (by rw [List.getElem?_replicate, if_pos (by have := HNn.out; rw [List.length_replicate] at this; omega)])
                  simp only [mkE, Xr.val, List.length_nil] at t0 t1
                  clear e9 hmm
                  go_wp2
                  exact ⟨⟨q + 1, by simp, by omega, by first | rfl | trivial⟩, by simp [intOf]; omega⟩
        · have hzz : (i : Int) < (j : Int) := by omega
          have hwi : IntKind.i64.wrap ((i : Int) + 1) = (i : Int) + 1 := by rw [IntKind.wrap_i64]; omega
          have hwm : IntKind.i64.wrap (-1 - (i : Int)) = -1 - (i : Int) := by rw [IntKind.wrap_i64]; omega
          obtain ⟨vi, hvi⟩ : ∃ v, os[i]? = some v := ⟨_, List.getElem?_eq_getElem (by rw [HM.out]; omega)⟩
          have hkr := HLo.out.kr i vi (Nat.le_refl _) hvi
          have htk := fun g => HLo.out.tk i vi g (Nat.le_refl _) hvi
          obtain ⟨ai, ci, rfl⟩ := hkr.shape
          obtain ⟨gl, off, rfl, e6⟩ := HNm.out.at HK.out hvi
          obtain ⟨ni, hni⟩ : ∃ n, len i = n := ⟨_, rfl⟩
          have hnb : ni ≤ 1048600 := by rw [← hni]; exact HLb.out i
          rw [List.length_replicate, hni] at hkr htk e6
          have HNi : Hid (len i = ni) := hni
          have HKr : Hid (EOwn wr 0 (.slice ai ni ci) (List.replicate ni (mkE i))) := hkr
          have HTi : Hid (∀ g, (Value.slice ai ni ci).ownBlock = some g → own4 g = 10 + i) := htk
          have HLn : Hid (Loe own4 wr os (fun q => List.replicate (len q) (mkE q)) (i + 1)) := HLo.out.next
          clear HLo hkr htk hvi hni
          go_wp2
          clear e6
          go_loopw [7, 8] (fun v7 v8 wr => ∃ (k : Nat) (own5 : Nat → Nat), v8 = .int .i64 k ∧ k ≤ 4 ∧ Loe own5 wr os (fun q => List.replicate (len q) (mkE q)) (i + 1) ∧ Gae own5 wr (.slice aL i cL) VL len ∧ EOwn wr 0 v7 (List.replicate (ni + k) (mkE i)) ∧ (∀ g, v7.ownBlock = some g → own5 g = 10 + i) ∧ C.Kt own w wr ∧ (∀ g, g < w.heap.size → own5 g = own g)) (fun _ v _ => 4 - (intOf v).toNat)
          case atStart => exact ⟨0, own4, rfl, by omega, HLn.out, HGa.out, HKr.out, HTi.out, HK.out, HO4.out⟩
          case round =>
            clear HLn HKr HTi HGa HK HO4
            obtain ⟨k, own5, rfl, hk, hLo, hGa, hS7, hT7, hK, ho5⟩ := hrel
            obtain ⟨a7, c7, hu7⟩ := hS7.shape
            obtain ⟨n7, hn7⟩ : ∃ n, ni + k = n := ⟨_, rfl⟩
            rw [List.length_replicate, hn7] at hu7
            subst hu7
            have HN7 : Hid (ni + k = n7 ∧ n7 ≤ 1048604 ∧ (List.replicate (ni + k) (mkE i)).length = n7) := ⟨hn7, by omega, by rw [List.length_replicate]; exact hn7⟩
            have HLo : Hid (Loe own5 wr os (fun q => List.replicate (len q) (mkE q)) (i + 1)) := hLo
            have HGa : Hid (Gae own5 wr (.slice aL i cL) VL len) := hGa
            have HS7 : Hid (EOwn wr 0 (.slice a7 n7 c7) (List.replicate (ni + k) (mkE i))) := hS7
            have HT7 : Hid (∀ g, (Value.slice a7 n7 c7).ownBlock = some g → own5 g = 10 + i) := hT7
            have HK : Hid (C.Kt own w wr) := hK
            have HO5 : Hid (∀ g, g < w.heap.size → own5 g = own g) := ho5
            clear hLo hGa hS7 hT7 hK ho5 hn7
            by_cases hk4 : k = 4
            · subst hk4
              go_wp2_with (first
                | (at_builtin; refine wpList_append_own_at _ rfl _ _ 53 rfl 0 33 i1 (.slice none 0 0) 1 24 Tryd.underlying53 hi1 hy0 hy1 hy2 rfl (by decide) (.slice aL i cL) VL.length VL rfl (World.ownsRow.alloc HGa.out.vl _) ⟨wr.heap.size, 0, none⟩ 1 1 [.slice a7 n7 c7] rfl rfl (C.one_new5 _ _ _) (by simp [Value.oneCell']) (by unfold maxLen; have := HVl.out; omega) (by have := HVl.out; omega) (by simp) ?_
                   intro v6 w6 hown6 hgrow6 hnil6 hat6; clear hnil6
                   have HG6 : Hid (wr.grownBy w6 (Value.slice aL i cL).ownBlock) := (World.grownBy_alloc wr _ _).trans hgrow6
                   have HO6 : Hid (w6.ownsRow 0 33 1 v6 (VL.length + 1) (VL ++ [.slice a7 n7 c7])) := hown6
                   have HA6 : Hid (v6.ownBlock = (Value.slice aL i cL).ownBlock ∨ ∃ g, v6.ownBlock = some g ∧ wr.heap.size ≤ g) := hat6.imp id (fun e => ⟨_, e, by simp⟩)
                   clear hown6 hgrow6 hat6)
                | go_in)
              have ho6 : ∀ g, g < wr.heap.size → (if g < wr.heap.size then own5 g else 5) = own5 g := fun g hg => if_pos hg
              have hpu := HGa.out.push HG6.out HO6.out HA6.out (by rw [HVl.out, HNi.out]; exact HS7.out) (by rw [HVl.out]; exact HT7.out)
              exact ⟨⟨i + 1, _, _, by simp, by omega, by rw [List.length_append, HVl.out]; rfl, HLo.out.keep HG6.out ho6 (fun g hg => HGa.out.tvl g hg) (fun q hq => by omega), hpu, HK.out.grown HG6.out (fun g hg hgl => by rw [← HO5.out g hgl, HGa.out.tvl g hg]; omega), fun g hg => (ho6 g (Nat.lt_of_lt_of_le hg HK.out.size)).trans (HO5.out g hg)⟩, by simp [intOf]; omega⟩
            · have hz4 : (k : Int) < 4 := by omega
              have hwk : IntKind.i64.wrap ((k : Int) + 1) = (k : Int) + 1 := by rw [IntKind.wrap_i64]; omega
              go_wp2_with (first
                | (at_builtin; refine wpList_append_own_at _ rfl _ _ 33 rfl 0 93 i0 (.agg #[.int .i64 0, .slice none 0 0]) 2 32 Tryd.underlying33 hi0 hz0 hz1 hz2 rfl (by decide) (.slice a7 n7 c7) (List.replicate (ni + k) (mkE i)).length ((List.replicate (ni + k) (mkE i)).flatMap Xr.cells) rfl (World.ownsRow.alloc HS7.out _) ⟨wr.heap.size, 0, none⟩ 1 1 [.int .i64 (-1 - (i : Int)), .slice none 0 0] rfl rfl (cell_two_new _ _ _ _) (by simp [Value.oneCell']) (by unfold maxLen; have := HN7.out; omega) (by have := HN7.out; omega) (by simp) ?_
                   intro v6 w6 hown6 hgrow6 hnil6 hat6; clear hnil6
                   have HG6 : Hid (wr.grownBy w6 (Value.slice a7 n7 c7).ownBlock) := (World.grownBy_alloc wr _ _).trans hgrow6
                   have HO6 : Hid (EOwn w6 0 v6 (List.replicate (ni + k) (mkE i) ++ [mkE i])) := EOwn.app3 (p := mkE i) hown6
                   have HA6 : Hid (v6.ownBlock = (Value.slice a7 n7 c7).ownBlock ∨ ∃ g, v6.ownBlock = some g ∧ wr.heap.size ≤ g) := hat6.imp id (fun e => ⟨_, e, by simp⟩)
                   clear hown6 hgrow6 hat6)
                | go_in)
              have ho6 : ∀ g, g < wr.heap.size → (if g < wr.heap.size then own5 g else 10 + i) = own5 g := fun g hg => if_pos hg
              refine ⟨⟨k + 1, fun g => if g < wr.heap.size then own5 g else 10 + i, by simp, by omega, HLo.out.keep HG6.out ho6 (fun g hg => HT7.out g hg) (fun q hq => by omega), HGa.out.keep HG6.out ho6 (fun g hg => HT7.out g hg) (by omega) (fun q hq => by have := HVl.out; omega), ?_, fun g hg => ?_, HK.out.grown HG6.out (fun g hg hgl => by rw [← HO5.out g hgl, HT7.out g hg]; omega), fun g hg => (ho6 g (Nat.lt_of_lt_of_le hg HK.out.size)).trans (HO5.out g hg)⟩, by simp [intOf]; omega⟩
              · have := HO6.out
                rw [← List.replicate_succ'] at this
                exact this
              · show (if g < wr.heap.size then own5 g else 10 + i) = 10 + i
                rcases HA6.out with q | ⟨g', q, q2⟩
                · rw [if_pos (HS7.out.lt g (q ▸ hg)).2]; exact HT7.out g (q ▸ hg)
                · have e2 : g' = g := Option.some.inj (q.symm.trans hg)
                  rw [if_neg (by omega)]
    · have hz : (j : Int) < (m : Int) := by omega
      have hwj : IntKind.i64.wrap ((j : Int) + 1) = (j : Int) + 1 := by rw [IntKind.wrap_i64]; omega
      obtain ⟨vj, hvj⟩ : ∃ v, os[j]? = some v := ⟨_, List.getElem?_eq_getElem (by rw [HM.out]; omega)⟩
      obtain ⟨aj, cj, rfl⟩ := (HLo.out.kr j vj (Nat.zero_le _) hvj).shape
      obtain ⟨nj, hnj⟩ : ∃ n, len j = n := ⟨_, rfl⟩
      have HNj : Hid (len j = nj) := hnj
      have hnb : nj ≤ 1048600 := by rw [← hnj]; exact HLb.out j
      rw [HCl.out j, hnj] at hvj
      have HVj : Hid (os[j]? = some (.slice aj nj cj)) := hvj
      clear hvj hnj
      go_wp2
      go_loopw [4] (fun v4 wr => ∃ (k : Nat) (Cs : Nat → List Xr), v4 = .int .i64 k ∧ k ≤ nj ∧ Loe own wr os Cs 0 ∧ (∀ q, (Cs q).length = len q) ∧ (∀ q, q < j → Cs q = List.replicate (len q) (mkE q)) ∧ (∀ q, q < k → (Cs j)[q]? = some (mkE j)) ∧ C.Kt own w wr) (fun v _ => nj - (intOf v).toNat)
      case atStart => exact ⟨0, Cs, rfl, by omega, HLo.out, HCl.out, HCm.out, fun q hq => by omega, HK.out⟩
      case round =>
        clear HLo HCl HCm HK
        obtain ⟨k, Cs2, rfl, hk, hLo, hCl, hCm, hCk, hK⟩ := hrel
        have HLo : Hid (Loe own wr os Cs2 0) := hLo
        have HCl : Hid (∀ q, (Cs2 q).length = len q) := hCl
        have HCm : Hid (∀ q, q < j → Cs2 q = List.replicate (len q) (mkE q)) := hCm
        have HCk : Hid (∀ q, q < k → (Cs2 j)[q]? = some (mkE j)) := hCk
        have HK : Hid (C.Kt own w wr) := hK
        obtain ⟨gl, off, rfl, e6⟩ := HNm.out.at hK HVj.out
        clear hLo hCl hCm hCk hK
        by_cases hkn : k = nj
        · subst hkn
          have hz2 : ¬ (k : Int) < (k : Int) := by omega
          go_wp2
          refine ⟨⟨j + 1, Cs2, by simp, by omega, HLo.out, HCl.out, fun q hq => ?_, HK.out⟩, by simp [intOf]; omega⟩
          by_cases e : q = j
          · subst e
            rw [HNj.out]
            exact all_marksE (by rw [HCl.out q, HNj.out]) HCk.out
          · exact HCm.out q (by omega)
        · have hz2' : (k : Int) < (nj : Int) := by omega
          have hwk : IntKind.i64.wrap ((k : Int) + 1) = (k : Int) + 1 := by rw [IntKind.wrap_i64]; omega
          have hwm : IntKind.i64.wrap (-1 - (j : Int)) = -1 - (j : Int) := by rw [IntKind.wrap_i64]; omega
          have hkr := HLo.out.kr j _ (Nat.zero_le _) HVj.out
          obtain ⟨gj, capj, ej⟩ := hkr.some2 (by rw [HCl.out j, HNj.out]; omega)
          obtain ⟨rfl, hmm, rfl⟩ : aj = some ⟨gj, 0, none⟩ ∧ nj = (Cs2 j).length ∧ cj = capj := by simpa using ej
          obtain ⟨y1, hy⟩ : ∃ y, (Cs2 j)[k]? = some y := ⟨_, List.getElem?_eq_getElem (by omega)⟩
          obtain ⟨t0, t1, f0, f1⟩ := hkr.cells2 hy
          have HNew : Hid _ := HLo.out.store (k := k) HVj.out (mkE j)
          have hgt : own gj = 10 + j := HLo.out.tk j _ gj (Nat.zero_le _) HVj.out rfl
          have HK2 : Hid (C.Kt own w ((wr.setCell ⟨gj, k * 2, none⟩ (.int .i64 (-1 - (j : Int)))).setCell ⟨gj, k * 2 + 1, none⟩ (.slice none 0 0))) := HK.out.grown (row := some gj) (C.grown_trans (grown_set _ _ _ _) (grown_set _ _ _ _)) (fun g hg _ => by cases hg; rw [hgt]; omega)
          clear hkr ej hmm hy hgt
          go_wp2
          refine ⟨⟨k + 1, _, by simp, by omega, HNew.out, fun q => ?_, fun q hq => ?_, fun q hq => ?_, HK2.out⟩, by simp [intOf]; omega⟩
          · by_cases e : q = j
            · subst e; rw [if_pos rfl, List.length_set]; exact HCl.out q
            · rw [if_neg e]; exact HCl.out q
          · rw [if_neg (by omega)]; exact HCm.out q hq
          · rw [if_pos rfl, List.getElem?_set]
            by_cases e : k = q
            · rw [if_pos e, if_pos (by rw [HCl.out j, HNj.out]; omega)]
            · rw [if_neg e]; exact HCk.out q (by omega)


end Go.Proofs.YtdfdaambfihjaaaDoor
