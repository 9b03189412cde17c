import Derived.Test.YtllhbhogfffedaaGreatDoorRcR21
namespace Go.Proofs.YtllhbhogfffedaaGreatDoor
open Go.RowKit
set_option linter.unusedVariables false
set_option linter.unusedSimpArgs false

set_option maxRecDepth 100000 in
set_option maxHeartbeats 1000000 in
theorem num2_bad (rb k : Nat) (sl : Value) (w : World) (hh : w.heap[rb]? = some (r2O sl k true)) :
    Calls Tryz.prog 92 #[.pointer (some ⟨rb, 0, none⟩)] w fun e w' => e = .returned (.int .i64 0) ∧ w = w' := by
  obtain ⟨s0, s1, s2, sf⟩ := r2_cells hh
  clear hh sf
  go_enter Tryz.func92, Tryz.ntmps92
  go_wp2_with fail
  refine wp_loop_rounds 1 ?_
  rw [rounds_succ]
  go_wp2
  go_ret
  exact ⟨rfl, rfl⟩

/-- Bytes with their number ahead. -/
def bytP (zs : List Int) : Option (List Int × List Int) := match numP zs with
  | none => none
  | some (n, t) => if n ≤ t.length then some (t.take n.toNat, t.drop n.toNat) else none
/-- Where the reference's reader is. -/
structure R2 (W : World) (rb g off n c : Nat) (zs : List Int) (q : Option (List Int)) : Prop where
  hp : match q with
    | some t => W.heap[rb]? = some (r2O (.slice (some ⟨g, off, none⟩) n c) (n - t.length) false)
    | none => ∃ k, k ≤ n ∧ W.heap[rb]? = some (r2O (.slice (some ⟨g, off, none⟩) n c) k true)
  cl : ∀ i, i < n → W.cell? ⟨g, off + i, none⟩ = some (.int .u8 (zs.getD i 0))
  le : zs.length = n
  nc : n ≤ c
  mx : n ≤ 131072 ∧ c ≤ 9223372036854775807
  ne : g ≠ rb
  tl : ∀ t, q = some t → t.length ≤ n ∧ zs.drop (n - t.length) = t
theorem R2.grown {W W' : World} {rb g off n c : Nat} {zs : List Int} {q q' : Option (List Int)} (h : R2 W rb g off n c zs q) (hg : W.grownBy W' (some rb)) (hp : match q' with
    | some t => W'.heap[rb]? = some (r2O (.slice (some ⟨g, off, none⟩) n c) (n - t.length) false)
    | none => ∃ k, k ≤ n ∧ W'.heap[rb]? = some (r2O (.slice (some ⟨g, off, none⟩) n c) k true)) (ht : ∀ t, q' = some t → t.length ≤ n ∧ zs.drop (n - t.length) = t) : R2 W' rb g off n c zs q' :=
  ⟨hp, fun i hi => hg.cell (h.cl i hi) (by simp; exact h.ne), h.le, h.nc, h.mx, h.ne, ht⟩
theorem R2.keep {W W' : World} {rb g off n c : Nat} {zs : List Int} {q : Option (List Int)} {row : Option Nat} (h : R2 W rb g off n c zs q) (hg : W.grownBy W' row) (h1 : row ≠ some rb) (h2 : row ≠ some g) : R2 W' rb g off n c zs q := by
  refine ⟨?_, fun i hi => hg.cell (h.cl i hi) (fun e => h2 (by rw [← e])), h.le, h.nc, h.mx, h.ne, h.tl⟩
  have hp := h.hp
  cases q with
  | some t => exact (hg.block rb (Array.getElem?_eq_some_iff.mp hp).1 (fun e => h1 e.symm)).trans hp
  | none =>
    obtain ⟨k, hk, hh⟩ := hp
    exact ⟨k, hk, (hg.block rb (Array.getElem?_eq_some_iff.mp hh).1 (fun e => h1 e.symm)).trans hh⟩
theorem R2.below {W W' : World} {rb g off n c : Nat} {zs : List Int} {q : Option (List Int)} (h : R2 W rb g off n c zs q) (hb : Below W.heap.size W W') : R2 W' rb g off n c zs q :=
  h.keep (row := none) ⟨hb.os, hb.tape, hb.output, hb.size, fun k hk _ => hb.block k hk⟩ (by simp) (by simp)
theorem R2.rblt {W : World} {rb g off n c : Nat} {zs : List Int} {q : Option (List Int)} (h : R2 W rb g off n c zs q) : rb < W.heap.size := by
  have hp := h.hp
  cases q with
  | some t => exact (Array.getElem?_eq_some_iff.mp hp).1
  | none => obtain ⟨k, hk, hh⟩ := hp; exact (Array.getElem?_eq_some_iff.mp hh).1
theorem tail_of {zs t t' : List Int} {n : Nat} {e : List Int} (hl : zs.length = n) (h1 : t.length ≤ n) (h2 : zs.drop (n - t.length) = t) (h3 : t = e ++ t') : t'.length ≤ n ∧ zs.drop (n - t'.length) = t' := by
  subst h3
  rw [List.length_append] at h1 h2
  refine ⟨by omega, ?_⟩
  have h4 : (zs.drop (n - (e.length + t'.length))).drop e.length = t' := by rw [h2, List.drop_left]
  rw [List.drop_drop] at h4
  rw [show n - t'.length = n - (e.length + t'.length) + e.length by omega]
  exact h4

theorem R2.some_k {W : World} {rb g off n c : Nat} {zs : List Int} {q : Option (List Int)} (h : R2 W rb g off n c zs q) : ∃ k b, k ≤ n ∧ W.heap[rb]? = some (r2O (.slice (some ⟨g, off, none⟩) n c) k b) := by
  have hp := h.hp
  cases q with
  | some t => exact ⟨_, _, by omega, hp⟩
  | none => obtain ⟨k, hk, hh⟩ := hp; exact ⟨k, _, hk, hh⟩
theorem R2.bad {W : World} {rb g off n c : Nat} {zs : List Int} {q : Option (List Int)} (h : R2 W rb g off n c zs q) : R2 (W.setCell ⟨rb, 2, none⟩ (.bool true)) rb g off n c zs none := by
  obtain ⟨k, b, hk, hh⟩ := h.some_k
  refine h.grown (grown_set _ _ _ _) ⟨k, hk, ?_⟩ (fun t ht => by cases ht)
  simp [World.setCell, Array.getElem?_modify, hh]
/-- A number, wherever the reader is. -/
def num2P (q : Option (List Int)) : Int × Option (List Int) := match q with
  | none => (0, none)
  | some t => match numP t with
    | none => (0, none)
    | some (v, t') => (v, some t')
theorem num2_all (rb g off n c : Nat) (zs : List Int) (q : Option (List Int)) (w : World) (hb : Bytey zs) (h : R2 w rb g off n c zs q) :
    Calls Tryz.prog 92 #[.pointer (some ⟨rb, 0, none⟩)] w fun e w' => e = .returned (.int .i64 (num2P q).1) ∧ R2 w' rb g off n c zs (num2P q).2 ∧ w.grownBy w' (some rb) := by
  cases q with
  | none =>
    obtain ⟨k, hk, hh⟩ := h.hp
    exact (num2_bad rb k _ w hh).mono fun e w' ⟨h1, h2⟩ => ⟨h1, h2 ▸ h, h2 ▸ World.grownBy.refl _ _⟩
  | some t =>
    have hp : w.heap[rb]? = some (r2O (.slice (some ⟨g, off, none⟩) n c) (n - t.length) false) := h.hp
    obtain ⟨h1, h2⟩ := h.tl t rfl
    have hn := num2_any rb g off n c (n - t.length) zs w hp h.le h.cl (by omega) hb (by have := h.mx; omega) h.ne
    rw [h2] at hn
    have hbt : Bytey t := by rw [← h2]; exact bytey_drop hb _
    refine hn.mono fun e w' hq => ?_
    cases hnp : numP t with
    | none =>
      have hnq : num2P (some t) = (0, none) := by unfold num2P; simp only [hnp]
      rw [hnq]
      rw [hnp] at hq
      obtain ⟨⟨e1, k, hk, hh⟩, hg⟩ := hq
      exact ⟨e1, h.grown hg ⟨k, hk, hh⟩ (fun t' ht => by cases ht), hg⟩
    | some p =>
      obtain ⟨v, t'⟩ := p
      have hnq : num2P (some t) = (v, some t') := by unfold num2P; simp only [hnp]
      rw [hnq]
      rw [hnp] at hq
      obtain ⟨⟨e1, hh⟩, hg⟩ := hq
      obtain ⟨_, _, _, h4, _, _, _, _⟩ := numP_inv hbt hnp
      exact ⟨e1, h.grown hg hh (fun t'' ht => by cases ht; exact tail_of h.le h1 h2 h4), hg⟩

theorem R2.app {w w3 w5 : World} {rb g off n c nn m : Nat} {e : TypeId} {v : Value} {xs : List Value} {o : Obj} {zs : List Int} {q : Option (List Int)} (h : R2 w3 rb g off n c zs q) (hso : w3.ownsRow w.heap.size e nn v m xs) (hg : (w3.alloc o).grownBy w5 v.ownBlock) (h1 : rb < w.heap.size) (h2 : g < w.heap.size) : R2 w5 rb g off n c zs q := by
  have h3 : R2 (w3.alloc o) rb g off n c zs q := h.below ((Below.refl _ _).alloc (Nat.le_refl _) _)
  refine h3.keep hg ?_ ?_
  · intro e'
    have := (hso.lt rb e').1
    omega
  · intro e'
    have := (hso.lt g e').1
    omega
theorem num2_bd {q : Option (List Int)} (hb : ∀ t, q = some t → Bytey t) : 0 ≤ (num2P q).1 ∧ (num2P q).1 ≤ 4611686018427387903 ∧ (∀ t', (num2P q).2 = some t' → Bytey t' ∧ ∃ t, q = some t ∧ t'.length + 1 ≤ t.length) := by
  cases q with
  | none => exact ⟨by simp [num2P], by simp [num2P], fun t' h => by simp [num2P] at h⟩
  | some t =>
    cases hnp : numP t with
    | none =>
      have e : num2P (some t) = (0, none) := by unfold num2P; simp only [hnp]
      rw [e]; exact ⟨by simp, by simp, fun t' h => by cases h⟩
    | some p =>
      obtain ⟨v, t1⟩ := p
      have e : num2P (some t) = (v, some t1) := by unfold num2P; simp only [hnp]
      rw [e]
      have h1 := numP_bd (hb t rfl) hnp
      have h2 := numP_by (hb t rfl) hnp
      exact ⟨h1.1, h1.2, fun t' h => by cases h; exact ⟨h2.1, t, rfl, h2.2⟩⟩
/-- So many spans, as the reference reads them. -/
def sp2P : Nat → Option (List Int) → List (Int × Int) × Option (List Int)
  | 0, q => ([], q)
  | k + 1, q => match sp2P k q with
    | (l, none) => (l, none)
    | (l, some t) => (l ++ [((num2P (some t)).1, (num2P (some t)).1 + (num2P (num2P (some t)).2).1)], if 4611686018427387903 - (num2P (some t)).1 < (num2P (num2P (some t)).2).1 then none else (num2P (num2P (some t)).2).2)
def sps2P (q : Option (List Int)) : List (Int × Int) × Option (List Int) := sp2P (num2P q).1.toNat (num2P q).2
theorem sp2P_no {k : Nat} {q : Option (List Int)} {l : List (Int × Int)} (h : sp2P k q = (l, none)) : ∀ j, sp2P (k + j) q = (l, none)
  | 0 => h
  | j + 1 => by
    have := sp2P_no h j
    show (match sp2P (k + j) q with | (l, none) => (l, none) | (l, some t) => _) = (l, none)
    rw [this]
theorem sp2P_by : ∀ {k : Nat} {q : Option (List Int)} {l : List (Int × Int)} {t : List Int}, (∀ t, q = some t → Bytey t) → sp2P k q = (l, some t) → l.length = k ∧ Bytey t ∧ ∃ t0, q = some t0 ∧ t.length + 2 * k ≤ t0.length
  | 0, q, l, t, hb, h => by
    simp only [sp2P, Prod.mk.injEq] at h
    obtain ⟨rfl, rfl⟩ := h
    exact ⟨rfl, hb t rfl, t, rfl, by simp⟩
  | k + 1, q, l, t, hb, h => by
    simp only [sp2P] at h
    split at h
    · cases h
    · rename_i l' t' h1
      obtain ⟨q1, q2, t0, q3, q4⟩ := sp2P_by hb h1
      simp only [Prod.mk.injEq] at h
      obtain ⟨rfl, h2⟩ := h
      split at h2
      · cases h2
      · obtain ⟨_, _, b3⟩ := num2_bd (q := some t') (fun t h => by cases h; exact q2)
        obtain ⟨_, _, b6⟩ := num2_bd (q := (num2P (some t')).2) (fun t h => (b3 t h).1)
        obtain ⟨c1, t1, c2, c3⟩ := b6 t h2
        obtain ⟨d1, t2, d2, d3⟩ := b3 t1 c2
        cases d2
        exact ⟨by simp [q1], c1, t0, q3, by omega⟩

set_option maxRecDepth 100000 in
set_option maxHeartbeats 4000000 in
theorem spans2_all (rb g off n c : Nat) (zs : List Int) (q : Option (List Int)) (w : World) (hb : Bytey zs) (h : R2 w rb g off n c zs q) (hgl : g < w.heap.size) :
    Calls Tryz.prog 91 #[.pointer (some ⟨rb, 0, none⟩)] w fun e w' => (∃ v, e = .returned v ∧ C.SOwn w' w.heap.size v (sps2P q).1) ∧ R2 w' rb g off n c zs (sps2P q).2 ∧ w.grownBy w' (some rb) := by
  obtain ⟨i0, hi, hz0, hz1, hz2⟩ := info_parts C.Tryz.info_span
  have hbq : ∀ t, q = some t → Bytey t := fun t ht => by rw [← (h.tl t ht).2]; exact bytey_drop hb _
  have hlq : ∀ t, q = some t → t.length ≤ n := fun t ht => (h.tl t ht).1
  have hmx := h.mx.1
  have hrl := h.rblt
  have hne := h.ne
  obtain ⟨b1, b2, b3⟩ := num2_bd hbq
  have HQ : Hid (sps2P q = sp2P (num2P q).1.toNat (num2P q).2) := rfl
  have HN1 := num2_all rb g off n c zs q w hb h
  rw [HQ.out]
  have hl1 : Hid (∀ t, (num2P q).2 = some t → t.length ≤ n) := fun t ht => by
    obtain ⟨_, t0, e0, e1⟩ := b3 t ht
    have := hlq t0 e0
    omega
  have HB1 : Hid (∀ t, (num2P q).2 = some t → Bytey t) := fun t ht => (b3 t ht).1
  have HBZ : Hid (Bytey zs) := hb
  clear b3 hbq hlq HQ h hb
  generalize (num2P q).1 = N at *
  generalize (num2P q).2 = q1 at *
  generalize hS : sp2P N.toNat q1 = S
  have HS : Hid (sp2P N.toNat q1 = S) := hS
  clear hS
  go_enter Tryz.func91, Tryz.ntmps91
  go_wp2_with (go_at_call 92; refine HN1.mono ?_; rintro e w1 ⟨rfl, hr1, hg1⟩)
  have HR1 : Hid (R2 w1 rb g off n c zs q1) := hr1
  have HG1 : Hid (w.grownBy w1 (some rb)) := hg1
  clear hr1 hg1 HN1
  go_loopw [4, 5] (fun lv i wr => ∃ (k : Nat) (l : List (Int × Int)) (qk : Option (List Int)), (k : Int) ≤ N ∧ i = .int .i64 k ∧ sp2P k q1 = (l, qk) ∧ C.SOwn wr w.heap.size lv l ∧ R2 wr rb g off n c zs qk ∧ w.grownBy wr (some rb)) (fun _ i _ => (N - intOf i).toNat)
  case atStart => exact ⟨0, [], q1, by omega, rfl, rfl, C.SOwn.nil _ _, HR1.out, HG1.out⟩
  case round =>
    obtain ⟨k, l, qk, hk, rfl, hsp, hso, hrd, hgr⟩ := hrel
    have HSP : Hid (sp2P k q1 = (l, qk)) := hsp
    have HSO : Hid (C.SOwn wr w.heap.size u4 l) := hso
    have HRD : Hid (R2 wr rb g off n c zs qk) := hrd
    have HGR : Hid (w.grownBy wr (some rb)) := hgr
    have hsw := hgr.size
    clear hsp hso hrd hgr HR1 HG1
    by_cases hkN : (k : Int) < N
    · cases qk with
      | none =>
        obtain ⟨kk, _, hhb⟩ := HRD.out.hp
        obtain ⟨s0, s1, s2, _⟩ := r2_cells hhb
        have HF : Hid (S = (l, none)) := by
          unfold Hid; rw [← HS.out]
          have := sp2P_no HSP.out (N.toNat - k)
          rw [show k + (N.toNat - k) = N.toNat by omega] at this
          exact this
        clear hhb
        go_wp2
        go_ret
        rw [HF.out]
        exact ⟨⟨_, rfl, HSO.out⟩, HRD.out, HGR.out⟩
      | some t =>
        have hhb : wr.heap[rb]? = some (r2O (.slice (some ⟨g, off, none⟩) n c) (n - t.length) false) := HRD.out.hp
        obtain ⟨s0, s1, s2, _⟩ := r2_cells hhb
        clear s0 s1 hhb
        obtain ⟨hll, hbt, t0, e0, e1⟩ := sp2P_by HB1.out HSP.out
        have hk2 : k ≤ 131072 := by have := hl1.out t0 e0; omega
        obtain ⟨a1, a2, a3⟩ := num2_bd (q := some t) (fun t h => by cases h; exact hbt)
        obtain ⟨c1, c2, _⟩ := num2_bd (q := (num2P (some t)).2) (fun t h => (a3 t h).1)
        have HN2 := num2_all rb g off n c zs (some t) wr HBZ.out HRD.out
        have HN3 : Hid (∀ W, R2 W rb g off n c zs (num2P (some t)).2 → Calls Tryz.prog 92 #[.pointer (some ⟨rb, 0, none⟩)] W fun e w' => e = .returned (.int .i64 (num2P (num2P (some t)).2).1) ∧ R2 w' rb g off n c zs (num2P (num2P (some t)).2).2 ∧ W.grownBy w' (some rb)) := fun W hW => num2_all rb g off n c zs _ W HBZ.out hW
        have HSP2 : Hid (sp2P (k + 1) q1 = (l ++ [((num2P (some t)).1, (num2P (some t)).1 + (num2P (num2P (some t)).2).1)], if 4611686018427387903 - (num2P (some t)).1 < (num2P (num2P (some t)).2).1 then none else (num2P (num2P (some t)).2).2)) := by unfold Hid; simp only [sp2P, HSP.out]
        clear a3 hbt e0 e1
        generalize (num2P (num2P (some t)).2).2 = q3 at *
        generalize (num2P (num2P (some t)).2).1 = y at *
        generalize (num2P (some t)).2 = q2 at *
        generalize (num2P (some t)).1 = x at *
        have hwr : IntKind.i64.wrap (x + y) = x + y := by rw [IntKind.wrap_i64]; omega
        have hws : IntKind.i64.wrap (4611686018427387903 - x) = 4611686018427387903 - x := by rw [IntKind.wrap_i64]; omega
        go_upto_region 7 with (go_at_call 92; refine HN2.mono ?_; rintro e w2 ⟨rfl, hr2, hg2⟩; have HR2 : Hid (R2 w2 rb g off n c zs q2) := hr2; have HG2 : Hid (w.grownBy w2 (some rb)) := grown_trans HGR.out hg2; have HS2 : Hid (C.SOwn w2 w.heap.size u4 l) := own_keep6 HSO.out hg2 (by intro j hj; have := (HSO.out.lt j hj).1; simp; omega); clear hr2 hg2)
        go_upto_region 8 with (go_at_call 92; refine (HN3.out _ HR2.out).mono ?_; rintro e w3 ⟨rfl, hr3, hg3⟩; have HR3 : Hid (R2 w3 rb g off n c zs q3) := hr3; have HG3 : Hid (w.grownBy w3 (some rb)) := grown_trans HG2.out hg3; have HS3 : Hid (C.SOwn w3 w.heap.size u4 l) := own_keep6 HS2.out hg3 (by intro j hj; have := (HS2.out.lt j hj).1; simp; omega); clear hr3 hg3)
        have hs3 := HG3.out.size
        clear s2 HN2
        by_cases hxy : 4611686018427387903 - x < y
        · have HSP3 : Hid (sp2P (k + 1) q1 = (l ++ [(x, x + y)], none)) := by have := HSP2.out; rw [if_pos hxy] at this; exact this
          obtain ⟨kk, bb, _, hhb⟩ := HR3.out.some_k
          obtain ⟨s0, s1, s2, sf⟩ := r2_cells hhb
          have sf2 := sf 2
          have HR4 : Hid (R2 (w3.setCell ⟨rb, 2, none⟩ (.bool true)) rb g off n c zs none) := HR3.out.bad
          have HG4 : Hid (w.grownBy (w3.setCell ⟨rb, 2, none⟩ (.bool true)) (some rb)) := grown_trans HG3.out (grown_set _ _ _ _)
          have HS4 : Hid (C.SOwn (w3.setCell ⟨rb, 2, none⟩ (.bool true)) w.heap.size u4 l) := own_keep6 HS3.out (grown_set _ _ _ _) (by intro j hj; have := (HS3.out.lt j hj).1; simp; omega)
          clear hhb sf
          go_upto_region 10 with fail
          clear s0 s1 s2 sf2
          generalize w3.setCell ⟨rb, 2, none⟩ (.bool true) = w4 at *
          have hs4 := HG4.out.size
          go_wp2_with (at_builtin; refine wpList_append_own_at _ rfl _ _ 79 rfl w.heap.size 128 i0 (.agg #[.int .i64 0, .int .i64 0]) 2 16 Tryz.underlying79 hi hz0 hz1 hz2 rfl (by decide) _ _ _ rfl (own_below6 HS4.out ((Below.refl _ _).alloc (Nat.le_refl _) _)) ⟨w4.heap.size, 0, none⟩ 1 1 [.int .i64 x, .int .i64 (x + y)] rfl rfl ?c1 ?c2 ?c3 ?c4 ?c5 ?_)
          case c1 => exact C.cell_two_at _ _ _ _ _ (by simp)
          case c2 => intro x hx; simp at hx; rcases hx with rfl | rfl <;> rfl
          case c3 => unfold maxLen; omega
          case c4 => omega
          case c5 => simp; omega
          intro v5 w5 hown5 hgrow5 _ hst5
          have HS5 : Hid (C.SOwn w5 w.heap.size v5 (l ++ [(x, x + y)])) := by
            unfold Hid C.SOwn
            rw [List.length_append, List.flatMap_append, hll]
            exact hown5
          have HG5 : Hid (w.grownBy w5 (some rb)) := grown_app HG4.out HS4.out hgrow5
          have HR5 : Hid (R2 w5 rb g off n c zs none) := HR4.out.app HS4.out hgrow5 hrl hgl
          clear hown5 hgrow5 hst5
          go_wp2
          go_roundw
          case rel => exact ⟨k + 1, l ++ [(x, x + y)], none, by omega, by go_num, HSP3.out, HS5.out, HR5.out, HG5.out⟩
          case measure => simp [intOf]; omega
        · have HSP3 : Hid (sp2P (k + 1) q1 = (l ++ [(x, x + y)], q3)) := by have := HSP2.out; rw [if_neg hxy] at this; exact this
          have HR4 : Hid (R2 w3 rb g off n c zs q3) := HR3.out
          have HG4 : Hid (w.grownBy w3 (some rb)) := HG3.out
          have HS4 : Hid (C.SOwn w3 w.heap.size u4 l) := HS3.out
          go_upto_region 10 with fail
          go_wp2_with (at_builtin; refine wpList_append_own_at _ rfl _ _ 79 rfl w.heap.size 128 i0 (.agg #[.int .i64 0, .int .i64 0]) 2 16 Tryz.underlying79 hi hz0 hz1 hz2 rfl (by decide) _ _ _ rfl (own_below6 HS4.out ((Below.refl _ _).alloc (Nat.le_refl _) _)) ⟨w3.heap.size, 0, none⟩ 1 1 [.int .i64 x, .int .i64 (x + y)] rfl rfl ?c1 ?c2 ?c3 ?c4 ?c5 ?_)
          try (case c1 => exact C.cell_two_at _ _ _ _ _ (by simp))
          try (case c2 => first | (intro x hx; simp at hx; rcases hx with rfl | rfl <;> rfl) | simp [Value.oneCell'])
          try (case c3 => first | (unfold maxLen; omega) | omega)
          try (case c4 => omega)
          try (case c5 => first | (simp; omega) | omega)
          intro v5 w5 hown5 hgrow5 _ hst5
          have HS5 : Hid (C.SOwn w5 w.heap.size v5 (l ++ [(x, x + y)])) := by
            unfold Hid C.SOwn
            rw [List.length_append, List.flatMap_append, hll]
            exact hown5
          have HG5 : Hid (w.grownBy w5 (some rb)) := grown_app HG4.out HS4.out hgrow5
          have HR5 : Hid (R2 w5 rb g off n c zs q3) := HR4.out.app HS4.out hgrow5 hrl hgl
          clear hown5 hgrow5 hst5
          go_wp2
          go_roundw
          case rel => exact ⟨k + 1, l ++ [(x, x + y)], q3, by omega, by go_num, HSP3.out, HS5.out, HR5.out, HG5.out⟩
          case measure => simp [intOf]; omega
    · have hkn : N.toNat = k := by omega
      have HF : Hid (S = (l, qk)) := by unfold Hid; rw [← HS.out, hkn]; exact HSP.out
      have hkN' : ¬ (k : Int) < N := hkN
      go_wp2
      go_ret
      rw [HF.out]
      exact ⟨⟨_, rfl, HSO.out⟩, HRD.out, HGR.out⟩
end Go.Proofs.YtllhbhogfffedaaGreatDoor
