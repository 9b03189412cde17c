import Derived.Test.YtdfdaambfihjaaaDoorLnT
namespace Go.Proofs.YtdfdaambfihjaaaDoor.L
open Go.RowKit
set_option linter.unusedVariables false
set_option linter.unusedSimpArgs false

/-! ## What a session drops -/
def isR (t : Int) : Bool := decide (0 ≤ t) && decide (t ≤ 3)
def mnt (S1 S2 : Int) (all : Bool) (s : Sg) : Bool := decide (s.org = S1) && decide (s.num = S2) && (all || isR s.typ)

theorem isRed_any (s : Sg) (hv tv dv cv : Value) (w : World) : Calls Tryd.prog 32 #[.agg (svC s hv tv dv cv)] w fun e w' => e = .returned (.bool (isR s.typ)) ∧ Below w.heap.size w w' := by
  obtain ⟨t, ht⟩ : ∃ t, s.typ = t := ⟨_, rfl⟩
  have HB : Hid (Below w.heap.size w (w.alloc (.cells (svC s hv tv dv cv) 37))) := (Below.refl _ _).alloc (Nat.le_refl _) _
  rw [ht]
  by_cases h1 : 0 ≤ t
  · by_cases h2 : t ≤ 3
    · go_enter Tryd.func32, Tryd.ntmps32
      go_wp2
      go_ret
      exact ⟨by simp [isR, h1, h2], HB.out⟩
    · go_enter Tryd.func32, Tryd.ntmps32
      go_wp2
      go_ret
      exact ⟨by simp [isR, h1, h2], HB.out⟩
  · go_enter Tryd.func32, Tryd.ntmps32
    go_wp2
    go_ret
    exact ⟨by simp [isR, h1]; try omega, HB.out⟩

set_option maxHeartbeats 2000000 in
theorem meant_any (s : Sg) (hv tv dv cv : Value) (S1 S2 : Int) (all : Bool) (bs ba : Nat) (w : World) (k0 : w.cell? ⟨bs, 0, none⟩ = some (.int .i64 S1)) (k1 : w.cell? ⟨bs, 1, none⟩ = some (.int .i64 S2)) (k2 : w.cell? ⟨ba, 0, none⟩ = some (.bool all)) :
    Calls Tryd.prog 31 #[.agg (svC s hv tv dv cv), .pointer (some ⟨bs, 0, none⟩), .pointer (some ⟨ba, 0, none⟩)] w fun e w' => e = .returned (.bool (mnt S1 S2 all s)) ∧ Below w.heap.size w w' := by
  have hb : Below w.heap.size w (w.alloc (.cells (svC s hv tv dv cv) 37)) := (Below.refl _ _).alloc (Nat.le_refl _) _
  have HB : Hid (Below w.heap.size w (w.alloc (.cells (svC s hv tv dv cv) 37))) := hb
  have q0 := cell_below k0 hb
  have q1 := cell_below k1 hb
  have q2 := cell_below k2 hb
  have hr := isRed_any s hv tv dv cv (w.alloc (.cells (svC s hv tv dv cv) 37))
  clear hb k0 k1 k2
  obtain ⟨q, hq⟩ : ∃ q, isR s.typ = q := ⟨_, rfl⟩
  rw [hq] at hr
  have HF : Hid (∀ U, Below (w.alloc (.cells (svC s hv tv dv cv) 37)).heap.size (w.alloc (.cells (svC s hv tv dv cv) 37)) U → Below w.heap.size w U) := fun U hU => HB.out.trans (hU.mono HB.out.size)
  by_cases e1 : s.org = S1
  · by_cases e2 : s.num = S2
    · have hm : mnt S1 S2 all s = (all || q) := by unfold mnt; rw [hq]; simp [e1, e2]
      rw [hm]
      clear hm
      subst e1 e2
      cases all with
      | true =>
        go_enter Tryd.func31, Tryd.ntmps31
        go_wp2
        go_ret
        exact ⟨by simp, HB.out⟩
      | false =>
        go_enter Tryd.func31, Tryd.ntmps31
        go_wp2_with fail
        refine hr.mono ?_
        rintro e U ⟨rfl, hU⟩
        have HU := HF.out U hU
        clear hr hU HF
        go_wp2
        go_ret
        exact ⟨by simp, HU⟩
    · have hm : mnt S1 S2 all s = false := by unfold mnt; simp [e2]
      rw [hm]
      clear hm
      have e2' : (s.num == S2) = false := by simpa using e2
      go_enter Tryd.func31, Tryd.ntmps31
      go_wp2
      go_ret
      exact ⟨by simp, HB.out⟩
  · have hm : mnt S1 S2 all s = false := by unfold mnt; simp [e1]
    rw [hm]
    clear hm
    have e1' : (s.org == S1) = false := by simpa using e1
    go_enter Tryd.func31, Tryd.ntmps31
    go_wp2
    go_ret
    exact ⟨by simp, HB.out⟩

end Go.Proofs.YtdfdaambfihjaaaDoor.L

namespace Go.Proofs.YtdfdaambfihjaaaDoor.L
open Go.RowKit
set_option linter.unusedVariables false
set_option linter.unusedSimpArgs false

/-- The closure's value. -/
abbrev fnM (bs ba : Nat) : Value := .func (.func 31) #[] #[.pointer (some ⟨bs, 0, none⟩), .pointer (some ⟨ba, 0, none⟩)]
/-- Segments that lie side by side from a place on. -/
def Sd (w : World) (g off : Nat) (L : List Sv) : Prop := ∀ (i : Nat) y, L[i]? = some y → ∀ j u, y.L[j]? = some u → w.cell? ⟨g, off + i * 14 + j, none⟩ = some u
theorem Sd.below {w w' : World} {g off : Nat} {L : List Sv} (h : Sd w g off L) (hb : Below w.heap.size w w') : Sd w' g off L := fun i y hi j u hj => cell_below (h i y hi j u hj) hb

set_option maxRecDepth 100000 in
set_option maxHeartbeats 4000000 in
theorem index_any (w : World) (g off m c bs ba : Nat) (L : List Sv) (S1 S2 : Int) (all : Bool) (hL : Sd w g off L) (hm : L.length = m) (hmb : m ≤ 68719476736) (k0 : w.cell? ⟨bs, 0, none⟩ = some (.int .i64 S1)) (k1 : w.cell? ⟨bs, 1, none⟩ = some (.int .i64 S2)) (k2 : w.cell? ⟨ba, 0, none⟩ = some (.bool all)) :
    Calls Tryd.prog 64 #[.slice (some ⟨g, off, none⟩) m c, fnM bs ba] w fun e w' => ((∃ i y, e = .returned (.int .i64 (i : Nat)) ∧ L[i]? = some y ∧ mnt S1 S2 all y.s = true ∧ ∀ z ∈ L.take i, mnt S1 S2 all z.s = false) ∨ (e = .returned (.int .i64 (-1)) ∧ ∀ z ∈ L, mnt S1 S2 all z.s = false)) ∧ Below w.heap.size w w' := by
  have HL : Hid (Sd w g off L ∧ L.length = m) := ⟨hL, hm⟩
  have HK : Hid (w.cell? ⟨bs, 0, none⟩ = some (.int .i64 S1) ∧ w.cell? ⟨bs, 1, none⟩ = some (.int .i64 S2) ∧ w.cell? ⟨ba, 0, none⟩ = some (.bool all)) := ⟨k0, k1, k2⟩
  clear hL hm k0 k1 k2
  go_enter Tryd.func64, Tryd.ntmps64
  go_wp2_with fail
  go_loopw [8] (fun i wr => ∃ (k : Nat), k ≤ m ∧ i = .int .i64 k ∧ Hid (Below w.heap.size w wr ∧ ∀ z ∈ L.take k, mnt S1 S2 all z.s = false)) (fun i _ => m - (intOf i).toNat)
  case atStart => exact ⟨0, by omega, rfl, Below.refl _ _, fun z hz => by simp at hz⟩
  case round =>
    obtain ⟨k, hk, rfl, HJ⟩ := hrel
    by_cases hlt : k < m
    · have hlt' : (k : Int) < (m : Int) := by omega
      have hwk : IntKind.i64.wrap ((k : Int) + 1) = (k : Int) + 1 := by rw [IntKind.wrap_i64]; omega
      obtain ⟨y, hy⟩ := get_one L k (by rw [HL.out.2]; exact hlt)
      have HY : Hid (L[k]? = some y) := hy
      have hc := fun j u h => HL.out.1.below HJ.out.1 k y hy j u h
      have y0 := hc 0 _ rfl
      rw [Nat.add_zero] at y0
      have y1 := hc 1 _ rfl
      have y2 := hc 2 _ rfl
      have y3 := hc 3 _ rfl
      have y4 := hc 4 _ rfl
      have y5 := hc 5 _ rfl
      have y6 := hc 6 _ rfl
      have y7 := hc 7 _ rfl
      have y8 := hc 8 _ rfl
      have y9 := hc 9 _ rfl
      have y10 := hc 10 _ rfl
      have y11 := hc 11 _ rfl
      have y12 := hc 12 _ rfl
      have y13 := hc 13 _ rfl
      have hf := meant_any y.s y.hv y.tv y.dv y.cv S1 S2 all bs ba wr (cell_below HK.out.1 HJ.out.1) (cell_below HK.out.2.1 HJ.out.1) (cell_below HK.out.2.2 HJ.out.1)
      clear hc hy
      obtain ⟨q, hq⟩ : ∃ q, mnt S1 S2 all y.s = q := ⟨_, rfl⟩
      have HQ : Hid (mnt S1 S2 all y.s = q) := hq
      rw [hq] at hf
      clear hq
      have HN : Hid (∀ U, Below wr.heap.size wr U → Below w.heap.size w U) := fun U hU => HJ.out.1.trans (hU.mono HJ.out.1.size)
      cases q with
      | true =>
        go_wp2_with fail
        refine hf.mono ?_
        rintro e U ⟨rfl, hU⟩
        have HU : Hid (Below w.heap.size w U) := HN.out U hU
        clear hf hU y0 y1 y2 y3 y4 y5 y6 y7 y8 y9 y10 y11 y12 y13
        go_wp2
        go_ret
        exact ⟨.inl ⟨k, y, rfl, HY.out, HQ.out, HJ.out.2⟩, HU.out⟩
      | false =>
        go_wp2_with fail
        refine hf.mono ?_
        rintro e U ⟨rfl, hU⟩
        have HU : Hid (Below w.heap.size w U ∧ ∀ z ∈ L.take (k + 1), mnt S1 S2 all z.s = false) := ⟨HN.out U hU, fun z hz => by
          rw [List.take_add_one, HY.out] at hz
          rcases List.mem_append.mp hz with h | h
          · exact HJ.out.2 z h
          · simp at h
            subst h
            exact HQ.out⟩
        clear hf hU y0 y1 y2 y3 y4 y5 y6 y7 y8 y9 y10 y11 y12 y13
        go_wp2
        go_roundw
        case rel => first | exact ⟨k + 1, by omega, by go_num, HU⟩ | exact ⟨k + 1, by omega, by omega, HU⟩
        case measure => simp [intOf]; omega
    · have hlt' : ¬ (k : Int) < (m : Int) := by omega
      have HE : Hid (Below w.heap.size w wr ∧ ∀ z ∈ L, mnt S1 S2 all z.s = false) := ⟨HJ.out.1, fun z hz => HJ.out.2 z (by rw [List.take_of_length_le (by rw [HL.out.2]; omega)]; exact hz)⟩
      clear HJ
      go_wp2
      go_ret
      exact ⟨.inr ⟨rfl, HE.out.2⟩, HE.out.1⟩

end Go.Proofs.YtdfdaambfihjaaaDoor.L

namespace Go.Proofs.YtdfdaambfihjaaaDoor.L
open Go.RowKit
set_option linter.unusedVariables false
set_option linter.unusedSimpArgs false

/-- Its four lists are lists. -/
def Sv.Sl (x : Sv) : Prop := (∃ a n c, x.hv = .slice a n c) ∧ (∃ a n c, x.tv = .slice a n c) ∧ (∃ a n c, x.dv = .slice a n c) ∧ ∃ a n c, x.cv = .slice a n c
theorem Sv.Sl.one {x : Sv} (h : x.Sl) : x.One := by
  obtain ⟨s, hv, tv, dv, cv⟩ := x
  obtain ⟨⟨_, _, _, rfl⟩, ⟨_, _, _, rfl⟩, ⟨_, _, _, rfl⟩, _, _, _, rfl⟩ := h
  intro u hu
  simp [Sv.L] at hu
  rcases hu with rfl | rfl | rfl | rfl | rfl | rfl | rfl | rfl | rfl | rfl | rfl | rfl | rfl | rfl <;> rfl
def kp (S1 S2 : Int) (all : Bool) (L : List Sv) : List Sv := L.filter fun y => !mnt S1 S2 all y.s
theorem kp_all {S1 S2 : Int} {all : Bool} {L : List Sv} (h : ∀ z ∈ L, mnt S1 S2 all z.s = false) : kp S1 S2 all L = L := by
  unfold kp; exact List.filter_eq_self.mpr (fun z hz => by rw [h z hz]; rfl)
/-- So far what is meant was struck out. -/
structure Df (w wr : World) (g f m cap i j : Nat) (S1 S2 : Int) (all : Bool) (Z : List Value) (L : List Sv) : Prop where
  le : j ≤ m
  lt : i < j
  len : (kp S1 S2 all (L.take j)).length = i
  row : ∃ Y, Y.length = (j - i) * 14 ∧ wr.ownsRow 0 37 14 (.slice (some ⟨g, 0, none⟩) (f + m) cap) (f + m) (Z ++ (seg (kp S1 S2 all (L.take j)) ++ (Y ++ seg (L.drop j))))
  kl : Kl (fun k => k = g) w wr

set_option maxRecDepth 100000 in
set_option maxHeartbeats 4000000 in
theorem delf_any (w : World) (g f m cap oo bs ba : Nat) (Z : List Value) (L : List Sv) (S1 S2 : Int) (all : Bool) (hr : w.ownsRow 0 37 14 (.slice (some ⟨g, 0, none⟩) (f + m) cap) (f + m) (Z ++ seg L)) (hZ : Z.length = f * 14) (hm : L.length = m) (hmb : f + m ≤ 68719476736) (hoo : 0 < m → oo = f * 14) (hone : ∀ x ∈ L, x.Sl)
    (k0 : w.cell? ⟨bs, 0, none⟩ = some (.int .i64 S1)) (k1 : w.cell? ⟨bs, 1, none⟩ = some (.int .i64 S2)) (k2 : w.cell? ⟨ba, 0, none⟩ = some (.bool all)) (hbs : bs ≠ g) (hba : ba ≠ g) :
    Calls Tryd.prog 57 #[.slice (some ⟨g, oo, none⟩) m (cap - f), fnM bs ba] w fun e w' => ∃ T, e = .returned (.slice (some ⟨g, oo, none⟩) (kp S1 S2 all L).length (cap - f)) ∧ w'.ownsRow 0 37 14 (.slice (some ⟨g, 0, none⟩) (f + m) cap) (f + m) (Z ++ (seg (kp S1 S2 all L) ++ T)) ∧ Kl (fun k => k = g) w w' := by
  have hgl := (hr.lt g rfl).2
  have hSd : Sd w g oo L := fun i y hi j u hj => by
    have hil := (List.getElem?_eq_some_iff.mp hi).1
    rw [hoo (by omega)]
    have hjl : j < 14 := (List.getElem?_eq_some_iff.mp hj).1
    have hs : (seg L)[i * 14 + j]? = some u := by
      have h1 := seg_drop L i
      rw [drop_get L i y hi] at h1
      have h2 : seg (y :: L.drop (i + 1)) = y.L ++ seg (L.drop (i + 1)) := List.flatMap_cons
      rw [← List.getElem?_drop, h1, h2, List.getElem?_append_left (by exact hjl)]
      exact hj
    have := hr.cells (g := g) rfl (f * 14 + (i * 14 + j)) u (by rw [List.getElem?_append_right (by omega), hZ, Nat.add_sub_cancel_left]; exact hs)
    rwa [addr_add, Nat.zero_add, ← Nat.add_assoc] at this
  have hix := index_any w g oo m (cap - f) bs ba L S1 S2 all hSd hm (by omega) k0 k1 k2
  have HK : Hid (w.cell? ⟨bs, 0, none⟩ = some (.int .i64 S1) ∧ w.cell? ⟨bs, 1, none⟩ = some (.int .i64 S2) ∧ w.cell? ⟨ba, 0, none⟩ = some (.bool all) ∧ bs ≠ g ∧ ba ≠ g) := ⟨k0, k1, k2, hbs, hba⟩
  have HR : Hid (w.ownsRow 0 37 14 (.slice (some ⟨g, 0, none⟩) (f + m) cap) (f + m) (Z ++ seg L) ∧ Z.length = f * 14 ∧ L.length = m ∧ (∀ x ∈ L, x.Sl) ∧ (0 < m → oo = f * 14)) := ⟨hr, hZ, hm, hone, hoo⟩
  clear hr hZ hm hoo hone k0 k1 k2 hbs hba hSd
  go_enter Tryd.func57, Tryd.ntmps57
  go_wp2_with fail
  refine hix.mono ?_
  rintro e w1 ⟨⟨i, y, rfl, hy, hm1, hm2⟩ | ⟨rfl, hall⟩, hb1⟩
  · have hne : ((i : Int) == -1) = false := beq_eq_false_iff_ne.2 (by omega)
    have hne' : ¬ (i : Int) = -1 := by omega
    have hil : i < m := by rw [← HR.out.2.2.1]; exact (List.getElem?_eq_some_iff.mp hy).1
    have hw1 : IntKind.i64.wrap ((i : Int) + 1) = ((i + 1 : Nat) : Int) := by rw [IntKind.wrap_i64]; omega
    have HD0 : Hid (Df w w1 g f m cap i (i + 1) S1 S2 all Z L) := by
      have e1 : kp S1 S2 all (L.take (i + 1)) = L.take i := by
        rw [List.take_add_one, hy]
        unfold kp
        rw [List.filter_append, List.filter_eq_self.mpr (fun z hz => by rw [hm2 z hz]; rfl)]
        simp [hm1]
      refine ⟨by omega, by omega, by rw [e1]; simp; have := HR.out.2.2.1; omega, ⟨y.L, by simp [Sv.L], ?_⟩, Kl.of_below hb1⟩
      rw [e1]
      have e2 : seg (L.take i) ++ (y.L ++ seg (L.drop (i + 1))) = seg L := by
        have h2 : seg (y :: L.drop (i + 1)) = y.L ++ seg (L.drop (i + 1)) := List.flatMap_cons
        rw [← h2, ← drop_get L i y hy, ← seg_app, List.take_append_drop]
      rw [e2]
      exact own_blk HR.out.1 (fun k hk => hb1.block k (HR.out.1.lt k hk).2)
    clear hy hm1 hm2 hb1 hix
    go_wp2_with fail
    go_loopw [5, 6, 7] (fun s5 s6 _ wr => ∃ (i j : Nat), s5 = .int .i64 i ∧ s6 = .int .i64 j ∧ j ≤ m ∧ i < j ∧ Hid (Df w wr g f m cap i j S1 S2 all Z L)) (fun _ s6 _ _ => m - (intOf s6).toNat)
    case atStart => exact ⟨i, i + 1, rfl, by go_num, by omega, by omega, HD0⟩
    case round =>
      obtain ⟨i, j, rfl, rfl, hjm, hij, HD⟩ := hrel
      clear HD0
      by_cases hlt : j < m
      · have hlt' : (j : Int) < (m : Int) := by omega
        have hoo := HR.out.2.2.2.2 (by omega)
        subst hoo
        obtain ⟨y, hy⟩ := get_one L j (by rw [HR.out.2.2.1]; exact hlt)
        have HY : Hid (L[j]? = some y) := hy
        have hc : ∀ (q : Nat) u, y.L[q]? = some u → wr.cell? ⟨g, f * 14 + j * 14 + q, none⟩ = some u := fun q u hq => by
          obtain ⟨Y, hYl, hrow⟩ := HD.out.row
          have hql : q < 14 := (List.getElem?_eq_some_iff.mp hq).1
          have hsl : (seg (kp S1 S2 all (L.take j))).length = i * 14 := by rw [seg_len, HD.out.len]
          have h2 : seg (y :: L.drop (j + 1)) = y.L ++ seg (L.drop (j + 1)) := List.flatMap_cons
          have := hrow.cells (g := g) rfl (f * 14 + (j * 14 + q)) u (by
            rw [List.getElem?_append_right (by have := HR.out.2.1; omega), HR.out.2.1, Nat.add_sub_cancel_left, List.getElem?_append_right (by omega), hsl, List.getElem?_append_right (by omega), hYl, drop_get L j y hy, h2, show j * 14 + q - i * 14 - (j - i) * 14 = q by omega, List.getElem?_append_left (by exact hql)]
            exact hq)
          rwa [addr_add, Nat.zero_add, ← Nat.add_assoc] at this
        have y0 := hc 0 _ rfl
        rw [Nat.add_zero] at y0
        have y1 := hc 1 _ rfl
        have y2 := hc 2 _ rfl
        have y3 := hc 3 _ rfl
        have y4 := hc 4 _ rfl
        have y5 := hc 5 _ rfl
        have y6 := hc 6 _ rfl
        have y7 := hc 7 _ rfl
        have y8 := hc 8 _ rfl
        have y9 := hc 9 _ rfl
        have y10 := hc 10 _ rfl
        have y11 := hc 11 _ rfl
        have y12 := hc 12 _ rfl
        have y13 := hc 13 _ rfl
        have hsl := HR.out.2.2.2.1 y (List.mem_of_getElem? hy)
        clear hc hy
        obtain ⟨s, hv, tv, dv, cv⟩ := y
        obtain ⟨⟨ha, hn, hcp, rfl⟩, ⟨ta, tn, tc, rfl⟩, ⟨da, dn, dc, rfl⟩, ca, cn, cc, rfl⟩ := hsl
        simp only at y0 y1 y2 y3 y4 y5 y6 y7 y8 y9 y10 y11 y12 y13
        go_upto_region 8 with fail
        obtain ⟨y, hye⟩ : ∃ y : Sv, y = ⟨s, .slice ha hn hcp, .slice ta tn tc, .slice da dn dc, .slice ca cn cc⟩ := ⟨_, rfl⟩
        obtain ⟨W, hW⟩ : ∃ W, wr.alloc (.cells #[.int .i64 s.typ, .int .i64 s.org, .int .i64 s.num, .slice ha hn hcp, .slice ta tn tc, .int .i64 s.srv, .int .i64 s.off, .slice da dn dc, .int .i64 s.chk, .int .i64 s.rep, .int .i64 s.upp, .int .i64 s.low, .slice ca cn cc, .int .i64 s.rsn] 37) = W := ⟨_, rfl⟩
        rw [hW]
        have hbW : Below wr.heap.size wr W := by rw [← hW]; exact (Below.refl _ _).alloc (Nat.le_refl _) _
        have hnw : W.heap[wr.heap.size]? = some (.cells #[.int .i64 s.typ, .int .i64 s.org, .int .i64 s.num, .slice ha hn hcp, .slice ta tn tc, .int .i64 s.srv, .int .i64 s.off, .slice da dn dc, .int .i64 s.chk, .int .i64 s.rep, .int .i64 s.upp, .int .i64 s.low, .slice ca cn cc, .int .i64 s.rsn] 37 (0, 0)) := by rw [← hW]; exact heap_alloc_new' _ _
        have hkw : Kl (fun k => k = g) w W := HD.out.kl.below hbW
        have hf := meant_any s (.slice ha hn hcp) (.slice ta tn tc) (.slice da dn dc) (.slice ca cn cc) S1 S2 all bs ba W (hkw.cell HK.out.1 HK.out.2.2.2.1) (hkw.cell HK.out.2.1 HK.out.2.2.2.1) (hkw.cell HK.out.2.2.1 HK.out.2.2.2.2)
        have HW : Hid (Below wr.heap.size wr W) := hbW
        obtain ⟨B, hB⟩ : ∃ B, wr.heap.size = B := ⟨_, rfl⟩
        have HBe : Hid (wr.heap.size = B ∧ B < W.heap.size) := ⟨hB, by rw [← hB]; exact (Array.getElem?_eq_some_iff.1 hnw).1⟩
        rw [hB] at hnw ⊢
        have kk : ∀ (q : Nat) u, y.L[q]? = some u → W.cell? ⟨B, q, none⟩ = some u := fun q u h => by rw [cell_of_row _ _ _ _ _ _ hnw]; rw [hye] at h; simpa [Sv.L] using h
        have HKK : Hid (∀ U, Below W.heap.size W U → ∀ (q : Nat) u, y.L[q]? = some u → U.cell? ⟨B, q, none⟩ = some u) := fun U hU q u h => cell_below (kk q u h) hU
        have HYE : Hid (y = ⟨s, .slice ha hn hcp, .slice ta tn tc, .slice da dn dc, .slice ca cn cc⟩ ∧ L[j]? = some y) := ⟨hye, by rw [hye]; exact HY.out⟩
        have t0 := kk 0 _ (by rw [hye]; rfl)
        have t1 := kk 1 _ (by rw [hye]; rfl)
        have t2 := kk 2 _ (by rw [hye]; rfl)
        have t3 := kk 3 _ (by rw [hye]; rfl)
        have t4 := kk 4 _ (by rw [hye]; rfl)
        have t5 := kk 5 _ (by rw [hye]; rfl)
        have t6 := kk 6 _ (by rw [hye]; rfl)
        have t7 := kk 7 _ (by rw [hye]; rfl)
        have t8 := kk 8 _ (by rw [hye]; rfl)
        have t9 := kk 9 _ (by rw [hye]; rfl)
        have t10 := kk 10 _ (by rw [hye]; rfl)
        have t11 := kk 11 _ (by rw [hye]; rfl)
        have t12 := kk 12 _ (by rw [hye]; rfl)
        have t13 := kk 13 _ (by rw [hye]; rfl)
        obtain ⟨q, hq⟩ : ∃ q, mnt S1 S2 all s = q := ⟨_, rfl⟩
        have HQ : Hid (mnt S1 S2 all s = q) := hq
        rw [hq] at hf
        have hwj : IntKind.i64.wrap ((j : Int) + 1) = (j : Int) + 1 := by rw [IntKind.wrap_i64]; omega
        have hwi : IntKind.i64.wrap ((i : Int) + 1) = (i : Int) + 1 := by rw [IntKind.wrap_i64]; omega
        clear y0 y1 y2 y3 y4 y5 y6 y7 y8 y9 y10 y11 y12 y13 kk hnw hbW hW hkw hB hye hq HY
        cases q with
        | true =>
          go_wp2_with fail
          refine hf.mono ?_
          rintro e U ⟨rfl, hU⟩
          have HU : Hid (Df w U g f m cap i (j + 1) S1 S2 all Z L) := by
            have hyj := HYE.out.2
            have hk : kp S1 S2 all (L.take (j + 1)) = kp S1 S2 all (L.take j) := by
              rw [List.take_add_one, hyj]
              unfold kp
              rw [List.filter_append]
              simp [HYE.out.1, HQ.out]
            have bU : Below wr.heap.size wr U := HW.out.trans (hU.mono HW.out.size)
            obtain ⟨Y, hYl, hrow⟩ := HD.out.row
            refine ⟨by omega, by omega, by rw [hk]; exact HD.out.len, ⟨Y ++ y.L, by rw [List.length_append, hYl]; simp [Sv.L]; omega, ?_⟩, HD.out.kl.below bU⟩
            have h2 : seg (y :: L.drop (j + 1)) = y.L ++ seg (L.drop (j + 1)) := List.flatMap_cons
            rw [hk, List.append_assoc Y, ← h2, ← drop_get L j y hyj]
            exact own_blk hrow (fun k hk => bU.block k (hrow.lt k hk).2)
          clear hf hU t0 t1 t2 t3 t4 t5 t6 t7 t8 t9 t10 t11 t12 t13
          go_wp2
          go_roundw
          case rel => exact ⟨i, j + 1, rfl, by go_num, by omega, by omega, HU⟩
          case measure => simp [intOf]; omega
        | false =>
          go_wp2_with fail
          refine hf.mono ?_
          rintro e U ⟨rfl, hU⟩
          have bU : Below wr.heap.size wr U := HW.out.trans (hU.mono HW.out.size)
          have hxs : ∀ q, q < 14 → (∃ u, U.cell? ⟨g, f * 14 + i * 14 + q, none⟩ = some u) ∧ U.frozen? ⟨g, f * 14 + i * 14 + q, none⟩ = false := fun q hq => by
            obtain ⟨Y, hYl, hrow⟩ := HD.out.row
            have h1 := own_in (own_blk hrow (fun k hk => bU.block k (hrow.lt k hk).2)) (j := f * 14 + i * 14 + q) (by rw [hrow.1]; omega)
            exact ⟨Option.isSome_iff_exists.1 h1.1, h1.2⟩
          obtain ⟨⟨r0, x0⟩, z0⟩ := hxs 0 (by omega)
          rw [Nat.add_zero] at x0 z0
          obtain ⟨⟨r1, x1⟩, z1⟩ := hxs 1 (by omega)
          obtain ⟨⟨r2, x2⟩, z2⟩ := hxs 2 (by omega)
          obtain ⟨⟨r3, x3⟩, z3⟩ := hxs 3 (by omega)
          obtain ⟨⟨r4, x4⟩, z4⟩ := hxs 4 (by omega)
          obtain ⟨⟨r5, x5⟩, z5⟩ := hxs 5 (by omega)
          obtain ⟨⟨r6, x6⟩, z6⟩ := hxs 6 (by omega)
          obtain ⟨⟨r7, x7⟩, z7⟩ := hxs 7 (by omega)
          obtain ⟨⟨r8, x8⟩, z8⟩ := hxs 8 (by omega)
          obtain ⟨⟨r9, x9⟩, z9⟩ := hxs 9 (by omega)
          obtain ⟨⟨r10, x10⟩, z10⟩ := hxs 10 (by omega)
          obtain ⟨⟨r11, x11⟩, z11⟩ := hxs 11 (by omega)
          obtain ⟨⟨r12, x12⟩, z12⟩ := hxs 12 (by omega)
          obtain ⟨⟨r13, x13⟩, z13⟩ := hxs 13 (by omega)
          have kU := HKK.out U hU
          have u0 := kU 0 _ (by rw [HYE.out.1]; rfl)
          have u1 := kU 1 _ (by rw [HYE.out.1]; rfl)
          have u2 := kU 2 _ (by rw [HYE.out.1]; rfl)
          have u3 := kU 3 _ (by rw [HYE.out.1]; rfl)
          have u4 := kU 4 _ (by rw [HYE.out.1]; rfl)
          have u5 := kU 5 _ (by rw [HYE.out.1]; rfl)
          have u6 := kU 6 _ (by rw [HYE.out.1]; rfl)
          have u7 := kU 7 _ (by rw [HYE.out.1]; rfl)
          have u8 := kU 8 _ (by rw [HYE.out.1]; rfl)
          have u9 := kU 9 _ (by rw [HYE.out.1]; rfl)
          have u10 := kU 10 _ (by rw [HYE.out.1]; rfl)
          have u11 := kU 11 _ (by rw [HYE.out.1]; rfl)
          have u12 := kU 12 _ (by rw [HYE.out.1]; rfl)
          have u13 := kU 13 _ (by rw [HYE.out.1]; rfl)
          have him' : (i : Int) < (m : Int) := by omega
          have HU : Hid (Df w (U.setCells g (f * 14 + i * 14) y.L) g f m cap (i + 1) (j + 1) S1 S2 all Z L) := by
            have hyj := HYE.out.2
            have hk : kp S1 S2 all (L.take (j + 1)) = kp S1 S2 all (L.take j) ++ [y] := by
              rw [List.take_add_one, hyj]
              unfold kp
              rw [List.filter_append]
              simp [HYE.out.1, HQ.out]
            obtain ⟨Y, hYl, hrow⟩ := HD.out.row
            have h2 : seg (y :: L.drop (j + 1)) = y.L ++ seg (L.drop (j + 1)) := List.flatMap_cons
            have rU := own_blk hrow (fun k hk => bU.block k (hrow.lt k hk).2)
            rw [drop_get L j y hyj, h2, ← List.append_assoc Y, ← List.append_assoc Z] at rU
            have hsl : (seg (kp S1 S2 all (L.take j))).length = i * 14 := by rw [seg_len, HD.out.len]
            have hpl : (Z ++ seg (kp S1 S2 all (L.take j))).length = f * 14 + i * 14 := by rw [List.length_append, hsl, HR.out.2.1]
            have hyl : y.L.length = 14 := rfl
            have hcut : Y ++ y.L = (Y ++ y.L).take 14 ++ (Y ++ y.L).drop 14 := (List.take_append_drop 14 _).symm
            rw [hcut, List.append_assoc ((Y ++ y.L).take 14)] at rU
            have r2 := own_lay y.L _ (f * 14 + i * 14) U rU
            rw [← hpl, lay_app _ _ _ _ (by rw [List.length_take, List.length_append, hyl]; omega), hpl] at r2
            refine ⟨by omega, by omega, by rw [hk, List.length_append, HD.out.len]; rfl, ⟨(Y ++ y.L).drop 14, by rw [List.length_drop, List.length_append, hYl, hyl]; omega, ?_⟩, (HD.out.kl.below bU).grown (grown_cells _ _ _ _) (fun k hk => .inl (by simpa using hk.symm))⟩
            have h3 : seg [y] = y.L := by simp [seg]
            rw [hk, seg_app, h3, List.append_assoc (seg _), ← List.append_assoc Z]
            exact r2
          clear hf hU bU hxs kU t0 t1 t2 t3 t4 t5 t6 t7 t8 t9 t10 t11 t12 t13
          go_wp2
          go_roundw
          case rel =>
            refine ⟨i + 1, j + 1, by go_num, by go_num, by omega, by omega, ?_⟩
            have h := HU
            rw [HYE.out.1] at h
            exact h
          case measure => simp [intOf]; omega
      · have hlt' : ¬ (j : Int) < (m : Int) := by omega
        obtain rfl : j = m := by omega
        have hoo := HR.out.2.2.2.2 (by omega)
        subst hoo
        obtain ⟨Y, hYl, hrow⟩ := HD.out.row
        have hcapm : f + j ≤ cap := by
          obtain ⟨_, ⟨e1, _⟩ | ⟨g', cap', cur, e1, _, _, q1, _⟩⟩ := hrow
          · cases e1
          · simp only [Value.slice.injEq] at e1
            omega
        have hle : (i : Int) ≤ (j : Int) := by omega
        have hle2 : (i : Int) ≤ ((cap - f : Nat) : Int) := by omega
        have h0i : 0 ≤ (i : Int) := by omega
        have hnc : ¬ cap - f = i := by omega
        have hnl : ¬ ((cap - f : Nat) : Int) ≤ (i : Int) := by omega
        have hcl := clear_run wr g (f * 14 + i * 14) (j - i) (cap - f - i) (by omega) (fun q hq => (own_in hrow (j := f * 14 + i * 14 + q) (by rw [hrow.1]; omega)).1) (fun q hq => (own_in hrow (j := f * 14 + i * 14 + q) (by rw [hrow.1]; omega)).2)
        have HF : Hid ((wr.setCells g (f * 14 + i * 14) (zrow (j - i))).ownsRow 0 37 14 (.slice (some ⟨g, 0, none⟩) (f + j) cap) (f + j) (Z ++ (seg (kp S1 S2 all L) ++ zrow (j - i))) ∧ (kp S1 S2 all L).length = i ∧ Kl (fun k => k = g) w (wr.setCells g (f * 14 + i * 14) (zrow (j - i)))) := by
          have e1 : L.take j = L := List.take_of_length_le (by rw [HR.out.2.2.1]; exact Nat.le_refl _)
          have e2 : L.drop j = [] := List.drop_of_length_le (by rw [HR.out.2.2.1]; exact Nat.le_refl _)
          have hln := HD.out.len
          rw [e1] at hln hrow
          rw [e2, show seg [] = [] from rfl] at hrow
          have hsl : (seg (kp S1 S2 all L)).length = i * 14 := by rw [seg_len, hln]
          have hpl : (Z ++ seg (kp S1 S2 all L)).length = f * 14 + i * 14 := by rw [List.length_append, hsl, HR.out.2.1]
          rw [← List.append_assoc Z] at hrow
          have r2 := own_lay (zrow (j - i)) _ (f * 14 + i * 14) wr hrow
          rw [← hpl, lay_app _ _ _ _ (by rw [hYl, zrow_len]), hpl, List.append_nil, List.append_assoc] at r2
          exact ⟨r2, hln, HD.out.kl.grown (grown_cells _ _ _ _) (fun k hk => .inl (by simpa using hk.symm))⟩
        clear hrow hYl
        go_wp2
        go_ret
        first | exact ⟨by rw [HF.out.2.1]; rfl, ⟨zrow (j - i), HF.out.1⟩, HF.out.2.2⟩ | exact ⟨zrow (j - i), by rw [HF.out.2.1]; rfl, HF.out.1, HF.out.2.2⟩
  · have HF : Hid (w1.ownsRow 0 37 14 (.slice (some ⟨g, 0, none⟩) (f + m) cap) (f + m) (Z ++ (seg (kp S1 S2 all L) ++ [])) ∧ Kl (fun k => k = g) w w1 ∧ (kp S1 S2 all L).length = m) := by
      rw [kp_all hall, List.append_nil]
      exact ⟨own_blk HR.out.1 (fun k hk => hb1.block k (HR.out.1.lt k hk).2), Kl.of_below hb1, HR.out.2.2.1⟩
    clear hall hb1 hix
    go_wp2
    go_ret
    exact ⟨[], by rw [HF.out.2.2]; rfl, HF.out.1, HF.out.2.1⟩

end Go.Proofs.YtdfdaambfihjaaaDoor.L
