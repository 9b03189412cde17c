import Derived.Test.YtnclfoljfnfglaiTmRe
namespace Go.Proofs.Ytnclfoljfnfglai
open Go.RowKit Go.Maps
set_option linter.unusedVariables false

/-! ## The law's world: two tables of the program, two of the reference, what came out -/
/-- One pair of tables, and what they hold. -/
structure Tbl where
  p : Nat
  bl : Nat
  bh : Nat
  r : Nat
  L : Tl
  R : Tl
  H : List Int
  Hr : List Int
def tgT (k : Bool) : Nat := if k = true then 2 else 1
def tgR (k : Bool) : Nat := if k = true then 4 else 3
theorem tgT_or (k : Bool) : tgT k = 1 ∨ tgT k = 2 := by unfold tgT; split <;> simp
theorem tgR_or (k : Bool) : tgR k = 3 ∨ tgR k = 4 := by unfold tgR; split <;> simp
theorem tgT_ne {j k : Bool} (h : j ≠ k) : tgT j ≠ tgT k := by cases j <;> cases k <;> simp_all [tgT]
theorem tgR_ne {j k : Bool} (h : j ≠ k) : tgR j ≠ tgR k := by cases j <;> cases k <;> simp_all [tgR]
def upP (T : Bool → Tbl) (k : Bool) (L : Tl) (H : List Int) : Bool → Tbl := fun j => if j = k then ⟨(T j).p, (T j).bl, (T j).bh, (T j).r, L, (T j).R, H, (T j).Hr⟩ else T j
def upQ (T : Bool → Tbl) (k : Bool) (R : Tl) (Hr : List Int) : Bool → Tbl := fun j => if j = k then ⟨(T j).p, (T j).bl, (T j).bh, (T j).r, (T j).L, R, (T j).H, Hr⟩ else T j
theorem upP_same (T : Bool → Tbl) (k : Bool) (L : Tl) (H : List Int) : upP T k L H k = ⟨(T k).p, (T k).bl, (T k).bh, (T k).r, L, (T k).R, H, (T k).Hr⟩ := if_pos rfl
theorem upP_other (T : Bool → Tbl) {j k : Bool} (L : Tl) (H : List Int) (h : j ≠ k) : upP T k L H j = T j := if_neg h
theorem upQ_same (T : Bool → Tbl) (k : Bool) (R : Tl) (Hr : List Int) : upQ T k R Hr k = ⟨(T k).p, (T k).bl, (T k).bh, (T k).r, (T k).L, R, (T k).H, Hr⟩ := if_pos rfl
theorem upQ_other (T : Bool → Tbl) {j k : Bool} (R : Tl) (Hr : List Int) (h : j ≠ k) : upQ T k R Hr j = T j := if_neg h
theorem upP_adr (T : Bool → Tbl) (k : Bool) (L : Tl) (H : List Int) (j : Bool) : (upP T k L H j).p = (T j).p ∧ (upP T k L H j).bl = (T j).bl ∧ (upP T k L H j).bh = (T j).bh ∧ (upP T k L H j).r = (T j).r ∧ (upP T k L H j).R = (T j).R ∧ (upP T k L H j).Hr = (T j).Hr := by
  unfold upP; split <;> simp
theorem upQ_adr (T : Bool → Tbl) (k : Bool) (R : Tl) (Hr : List Int) (j : Bool) : (upQ T k R Hr j).p = (T j).p ∧ (upQ T k R Hr j).bl = (T j).bl ∧ (upQ T k R Hr j).bh = (T j).bh ∧ (upQ T k R Hr j).r = (T j).r ∧ (upQ T k R Hr j).L = (T j).L ∧ (upQ T k R Hr j).H = (T j).H := by
  unfold upQ; split <;> simp
/-- A row of lists. -/
def VR (w : World) (v : Value) (vs : List Value) : Prop := w.ownsRow 0 58 1 v vs.length vs
theorem VR.keep {S : Nat → Prop} {w w' : World} {v : Value} {l : List Value} (h : VR w v l) (hk : Kq S w w') (hs : ∀ g, v.ownBlock = some g → ¬ S g) : VR w' v l := by
  have hlt := World.ownsRow.lt h
  obtain ⟨h1, h2⟩ := h
  refine ⟨h1, ?_⟩
  rcases h2 with h2 | ⟨g, cap, cur, rfl, hg, hh, r⟩
  · exact .inl h2
  · exact .inr ⟨g, cap, cur, rfl, hg, (hk.block g (hlt g rfl).2 (hs g rfl)).trans hh, r⟩
theorem VR.some {w : World} {v : Value} {l : List Value} (h : VR w v l) (hn : 0 < l.length) : ∃ g cap, v = .slice (some ⟨g, 0, none⟩) l.length cap ∧ g < w.heap.size := by
  obtain ⟨_, ⟨rfl, h0⟩ | ⟨g, cap, cur, rfl, hb, hg, hc, _⟩⟩ := h
  · omega
  · exact ⟨g, cap, rfl, (Array.getElem?_eq_some_iff.mp hg).1⟩
theorem VR.shape {w : World} {v : Value} {l : List Value} (h : VR w v l) : ∃ a cap, v = .slice a l.length cap := by
  obtain ⟨_, ⟨rfl, h0⟩ | ⟨g, cap, cur, rfl, _⟩⟩ := h
  · exact ⟨none, 0, by rw [h0]⟩
  · exact ⟨_, cap, rfl⟩
theorem VR.cell {w : World} {g n cap : Nat} {l : List Value} (h : VR w (.slice (Option.some ⟨g, 0, none⟩) n cap) l) {i : Nat} {c : Value} (hc : l[i]? = Option.some c) : w.cell? ⟨g, i, none⟩ = Option.some c := by
  have hi : i < l.length := (List.getElem?_eq_some_iff.mp hc).1
  have hn : n = l.length := by
    obtain ⟨_, ⟨e, _⟩ | ⟨g', cap', cur, e, _⟩⟩ := h
    · cases e
    · cases e; rfl
  subst hn
  exact (World.ownsRow.cellAt h _ (by omega)).trans hc
/-- The law's world in memory: 'own' tells whose each block is: 1, 2 the program's tables', 3, 4 the reference's, 6 the world's own, 7, 8 the two rows' of lists, 9 the reference's lists', 10 on the program's. -/
structure Wo (own : Nat → Nat) (w : World) (pw : Nat) (T : Bool → Tbl) (vo vw : Value) (os ws : List Value) (ls ms : List (List Kx)) : Prop where
  box : w.heap[pw]? = some (.cells #[.pointer (some ⟨(T false).p, 0, none⟩), .pointer (some ⟨(T true).p, 0, none⟩), .pointer (some ⟨(T false).r, 0, none⟩), .pointer (some ⟨(T true).r, 0, none⟩), vo, vw] 44 (0, 0))
  opw : own pw = 6
  tb : ∀ k, Tb w (T k).p (T k).bl (T k).bh (T k).L (T k).H
  ot : ∀ k, own (T k).p = tgT k ∧ own (T k).bl = tgT k ∧ own (T k).bh = tgT k
  rf : ∀ k, Rf w (T k).r (fun g => own g = tgR k) (T k).R (T k).Hr
  orr : ∀ k, own (T k).r = tgR k
  ro : VR w vo os
  too : ∀ g, vo.ownBlock = some g → own g = 7
  rw : VR w vw ws
  tww : ∀ g, vw.ownBlock = some g → own g = 8
  lo : os.length = ls.length
  lw : ws.length = ms.length
  ko : ∀ (i : Nat) v l, os[i]? = some v → ls[i]? = some l → KR w 0 v l
  tko : ∀ (i : Nat) v g, os[i]? = some v → v.ownBlock = some g → own g = 10 + i
  kw : ∀ (i : Nat) v l, ws[i]? = some v → ms[i]? = some l → KR w 0 v l
  tkw : ∀ (i : Nat) v g, ws[i]? = some v → v.ownBlock = some g → own g = 9

section
variable {own own' : Nat → Nat} {w w' : World} {pw : Nat} {T : Bool → Tbl} {vo vw : Value} {os ws : List Value} {ls ms : List (List Kx)} {S : Nat → Prop}

theorem Wo.ltw (h : Wo own w pw T vo vw os ws ls ms) : pw < w.heap.size := (Array.getElem?_eq_some_iff.1 h.box).1
theorem Wo.kTb (h : Wo own w pw T vo vw os ws ls ms) (hk : Kq S w w') (j : Bool) (hS : ∀ g, S g → g < w.heap.size → own g ≠ tgT j) : Tb w' (T j).p (T j).bl (T j).bh (T j).L (T j).H := by
  obtain ⟨l1, l2, l3⟩ := (h.tb j).lts
  obtain ⟨o1, o2, o3⟩ := h.ot j
  exact (h.tb j).keep hk (fun e => hS _ e l1 o1) (fun e => hS _ e l2 o2) (fun e => hS _ e l3 o3)
theorem Wo.kRf (h : Wo own w pw T vo vw os ws ls ms) (hk : Kq S w w') (ho : ∀ g, g < w.heap.size → own' g = own g) (j : Bool) (hS : ∀ g, S g → g < w.heap.size → own g ≠ tgR j) : Rf w' (T j).r (fun g => own' g = tgR j) (T j).R (T j).Hr := by
  have h1 : Rf w (T j).r (fun g => own g = tgR j ∧ g < w.heap.size) (T j).R (T j).Hr := (h.rf j).more fun g hg hl => ⟨hg, hl⟩
  have hl := (h.rf j).lt
  have h2 := h1.keep (S := fun g => S g) hk (fun g hg => ⟨fun e => by subst e; exact hS _ hg hl (h.orr j), fun e => hS g hg e.2 e.1⟩)
  exact h2.more fun g hg _ => (ho g hg.2).trans hg.1
theorem Wo.kV (h : VR w vo os) (hk : Kq S w w') (t : Nat) (ht : ∀ g, vo.ownBlock = some g → own g = t) (hS : ∀ g, S g → g < w.heap.size → own g ≠ t) : VR w' vo os :=
  h.keep hk fun g hg e => hS g e (World.ownsRow.lt h g hg).2 (ht g hg)
theorem Wo.kK {v : Value} {l : List Kx} (h : KR w 0 v l) (hk : Kq S w w') (t : Nat) (ht : ∀ g, v.ownBlock = some g → own g = t) (hS : ∀ g, S g → g < w.heap.size → own g ≠ t) : KR w' 0 v l :=
  h.keep hk fun g hg e => hS g e (World.ownsRow.lt h g hg).2 (ht g hg)
theorem Wo.olt (h : Wo own w pw T vo vw os ws ls ms) {i : Nat} {v : Value} {g : Nat} (hi : os[i]? = some v) (hg : v.ownBlock = some g) : g < w.heap.size := by
  obtain ⟨l, hl⟩ : ∃ l, ls[i]? = some l := ⟨_, List.getElem?_eq_getElem (by rw [← h.lo]; exact (List.getElem?_eq_some_iff.mp hi).1)⟩
  exact (World.ownsRow.lt (h.ko i v l hi hl) g hg).2
theorem Wo.wlt (h : Wo own w pw T vo vw os ws ls ms) {i : Nat} {v : Value} {g : Nat} (hi : ws[i]? = some v) (hg : v.ownBlock = some g) : g < w.heap.size := by
  obtain ⟨l, hl⟩ : ∃ l, ms[i]? = some l := ⟨_, List.getElem?_eq_getElem (by rw [← h.lw]; exact (List.getElem?_eq_some_iff.mp hi).1)⟩
  exact (World.ownsRow.lt (h.kw i v l hi hl) g hg).2

/-- Nothing of it was touched. -/
theorem Wo.same (h : Wo own w pw T vo vw os ws ls ms) (hb : Below w.heap.size w w') : Wo own w' pw T vo vw os ws ls ms := by
  have hk : Kq (fun _ => False) w w' := Kq.of_below hb
  refine ⟨(hk.block pw h.ltw id).trans h.box, h.opw, fun k => h.kTb hk k (fun _ e => e.elim), h.ot, fun k => h.kRf hk (fun _ _ => rfl) k (fun _ e => e.elim), h.orr, h.ro.keep hk (fun _ _ e => e), h.too, h.rw.keep hk (fun _ _ e => e), h.tww, h.lo, h.lw, fun i v l h1 h2 => (h.ko i v l h1 h2).keep hk (fun _ _ e => e), h.tko, fun i v l h1 h2 => (h.kw i v l h1 h2).keep hk (fun _ _ e => e), h.tkw⟩

/-- The program's call on one of its tables: what is new may be its answer's. -/
theorem Wo.prog (h : Wo own w pw T vo vw os ws ls ms) (k : Bool) {L : Tl} {H : List Int} (hk : Kq S w w') (hS : ∀ g, S g → g < w.heap.size → own g = tgT k) (hT : Tb w' (T k).p (T k).bl (T k).bh L H) :
    Wo (fun g => if g < w.heap.size then own g else 10 + os.length) w' pw (upP T k L H) vo vw os ws ls ms := by
  have ho : ∀ g, g < w.heap.size → (if g < w.heap.size then own g else 10 + os.length) = own g := fun g hg => if_pos hg
  have hne : ∀ t, tgT k ≠ t → ∀ g, S g → g < w.heap.size → own g ≠ t := fun t ht g h1 h2 e => ht ((hS g h1 h2).symm.trans e)
  have htk := tgT_or k
  refine ⟨?_, (ho pw h.ltw).trans h.opw, fun j => ?_, fun j => ?_, fun j => ?_, fun j => ?_, Wo.kV h.ro hk 7 h.too (hne 7 (by omega)), fun g hg => (ho g (World.ownsRow.lt h.ro g hg).2).trans (h.too g hg), Wo.kV h.rw hk 8 h.tww (hne 8 (by omega)), fun g hg => (ho g (World.ownsRow.lt h.rw g hg).2).trans (h.tww g hg), h.lo, h.lw,
    fun i v l h1 h2 => Wo.kK (h.ko i v l h1 h2) hk (10 + i) (h.tko i v · h1) (hne _ (by omega)), fun i v g h1 h2 => (ho g (h.olt h1 h2)).trans (h.tko i v g h1 h2), fun i v l h1 h2 => Wo.kK (h.kw i v l h1 h2) hk 9 (h.tkw i v · h1) (hne _ (by omega)), fun i v g h1 h2 => (ho g (h.wlt h1 h2)).trans (h.tkw i v g h1 h2)⟩
  · rw [(upP_adr T k L H false).1, (upP_adr T k L H true).1, (upP_adr T k L H false).2.2.2.1, (upP_adr T k L H true).2.2.2.1]
    exact (hk.block pw h.ltw (fun e => by have := hS pw e h.ltw; rw [h.opw] at this; omega)).trans h.box
  · by_cases e : j = k
    · subst e; rw [upP_same]; exact hT
    · rw [upP_other T L H e]; exact h.kTb hk j (hne _ (tgT_ne (Ne.symm e)))
  · obtain ⟨q1, q2, q3, _⟩ := upP_adr T k L H j
    obtain ⟨l1, l2, l3⟩ := (h.tb j).lts
    rw [q1, q2, q3]
    exact ⟨(ho _ l1).trans (h.ot j).1, (ho _ l2).trans (h.ot j).2.1, (ho _ l3).trans (h.ot j).2.2⟩
  · obtain ⟨_, _, _, q1, q2, q3⟩ := upP_adr T k L H j
    rw [q1, q2, q3]
    exact h.kRf hk ho j (hne _ (by have := tgR_or j; omega))
  · rw [(upP_adr T k L H j).2.2.2.1]
    exact (ho _ (h.rf j).lt).trans (h.orr j)

/-- The reference's call on one of its tables, and a list that it answers. -/
theorem Wo.refc (h : Wo own w pw T vo vw os ws ls ms) (k : Bool) (v : Value) {R : Tl} {Hr : List Int} (hk : Kq S w w') (hS : ∀ g, S g → g < w.heap.size → own g = tgR k) (hR : Rf w' (T k).r (fun g => grF (fun g => own g = tgR k) w w' g ∧ v.ownBlock ≠ some g) R Hr) (hv : ∀ g, v.ownBlock = some g → w.heap.size ≤ g) :
    Wo (fun g => if g < w.heap.size then own g else if v.ownBlock = some g then 9 else tgR k) w' pw (upQ T k R Hr) vo vw os ws ls ms := by
  have ho : ∀ g, g < w.heap.size → (if g < w.heap.size then own g else if v.ownBlock = some g then 9 else tgR k) = own g := fun g hg => if_pos hg
  have hne : ∀ t, tgR k ≠ t → ∀ g, S g → g < w.heap.size → own g ≠ t := fun t ht g h1 h2 e => ht ((hS g h1 h2).symm.trans e)
  have htk := tgR_or k
  refine ⟨?_, (ho pw h.ltw).trans h.opw, fun j => ?_, fun j => ?_, fun j => ?_, fun j => ?_, Wo.kV h.ro hk 7 h.too (hne 7 (by omega)), fun g hg => (ho g (World.ownsRow.lt h.ro g hg).2).trans (h.too g hg), Wo.kV h.rw hk 8 h.tww (hne 8 (by omega)), fun g hg => (ho g (World.ownsRow.lt h.rw g hg).2).trans (h.tww g hg), h.lo, h.lw,
    fun i v l h1 h2 => Wo.kK (h.ko i v l h1 h2) hk (10 + i) (h.tko i v · h1) (hne _ (by omega)), fun i v g h1 h2 => (ho g (h.olt h1 h2)).trans (h.tko i v g h1 h2), fun i v l h1 h2 => Wo.kK (h.kw i v l h1 h2) hk 9 (h.tkw i v · h1) (hne _ (by omega)), fun i v g h1 h2 => (ho g (h.wlt h1 h2)).trans (h.tkw i v g h1 h2)⟩
  · rw [(upQ_adr T k R Hr false).1, (upQ_adr T k R Hr true).1, (upQ_adr T k R Hr false).2.2.2.1, (upQ_adr T k R Hr true).2.2.2.1]
    exact (hk.block pw h.ltw (fun e => by have := hS pw e h.ltw; rw [h.opw] at this; omega)).trans h.box
  · obtain ⟨q1, q2, q3, _, q4, q5⟩ := upQ_adr T k R Hr j
    rw [q1, q2, q3, q4, q5]
    exact h.kTb hk j (hne _ (by have := tgT_or j; omega))
  · obtain ⟨q1, q2, q3, _⟩ := upQ_adr T k R Hr j
    obtain ⟨l1, l2, l3⟩ := (h.tb j).lts
    rw [q1, q2, q3]
    exact ⟨(ho _ l1).trans (h.ot j).1, (ho _ l2).trans (h.ot j).2.1, (ho _ l3).trans (h.ot j).2.2⟩
  · by_cases e : j = k
    · subst e
      rw [upQ_same]
      refine hR.more fun g hg hl => ?_
      by_cases q : g < w.heap.size
      · rw [if_pos q]
        rcases hg.1 with q1 | q1
        · exact q1
        · omega
      · rw [if_neg q, if_neg hg.2]
    · rw [upQ_other T R Hr e]
      exact h.kRf hk ho j (hne _ (tgR_ne (Ne.symm e)))
  · rw [(upQ_adr T k R Hr j).2.2.2.1]
    exact (ho _ (h.rf j).lt).trans (h.orr j)
theorem Wo.refn (h : Wo own w pw T vo vw os ws ls ms) (k : Bool) {R : Tl} {Hr : List Int} (hk : Kq (fun g => g = (T k).r ∨ own g = tgR k) w w') (hR : Rf w' (T k).r (grF (fun g => own g = tgR k) w w') R Hr) :
    ∃ own', Wo own' w' pw (upQ T k R Hr) vo vw os ws ls ms :=
  ⟨_, h.refc k (.slice none 0 0) hk (fun g hg _ => hg.elim (fun e => by rw [e]; exact h.orr k) id) (hR.more fun g hg _ => ⟨hg, by simp [Value.ownBlock]⟩) (fun g hg => by simp [Value.ownBlock] at hg)⟩

/-- A list of the program's is put behind the others. -/
theorem Wo.pushO {w6 : World} {v6 v : Value} {l : List Kx} (h : Wo own w pw T vo vw os ws ls ms) (hg : w.grownBy w6 vo.ownBlock) (hv6 : VR w6 v6 (os ++ [v])) (hl6 : v6.ownBlock = vo.ownBlock ∨ ∃ g, v6.ownBlock = some g ∧ w.heap.size ≤ g) (hkr : KR w 0 v l) (ht : ∀ g, v.ownBlock = some g → own g = 10 + os.length) :
    Wo (fun g => if g < w.heap.size then own g else 7) (w6.setCell ⟨pw, 4, none⟩ v6) pw T v6 vw (os ++ [v]) ws (ls ++ [l]) ms := by
  have ho : ∀ g, g < w.heap.size → (if g < w.heap.size then own g else 7) = own g := fun g hg => if_pos hg
  have hk : Kq (fun g => vo.ownBlock = some g ∨ g = pw) w (w6.setCell ⟨pw, 4, none⟩ v6) := ((Kq.refl _ w).grown hg (fun g hg => .inl (.inl hg))).setC ⟨pw, 4, none⟩ v6 (.inl (.inr rfl))
  have hne : ∀ t, t ≠ 6 → t ≠ 7 → ∀ g, (vo.ownBlock = some g ∨ g = pw) → g < w.heap.size → own g ≠ t := fun t h1 h2 g hg _ e => by
    rcases hg with hg | rfl
    · exact h2 (e.symm.trans (h.too g hg))
    · exact h1 (e.symm.trans h.opw)
  have hbx : w6.heap[pw]? = w.heap[pw]? := hg.block pw h.ltw (fun e => by have := h.too pw e.symm; rw [h.opw] at this; omega)
  refine ⟨?_, (ho pw h.ltw).trans h.opw, fun j => h.kTb hk j (hne _ (by have := tgT_or j; omega) (by have := tgT_or j; omega)), fun j => ?_, fun j => h.kRf hk ho j (hne _ (by have := tgR_or j; omega) (by have := tgR_or j; omega)), fun j => (ho _ (h.rf j).lt).trans (h.orr j), ?_, fun g hg => ?_, Wo.kV h.rw hk 8 h.tww (hne 8 (by omega) (by omega)), fun g hg => (ho g (World.ownsRow.lt h.rw g hg).2).trans (h.tww g hg), by simp [h.lo], h.lw,
    fun i u l' h1 h2 => ?_, fun i u g h1 h2 => ?_, fun i v l h1 h2 => Wo.kK (h.kw i v l h1 h2) hk 9 (h.tkw i v · h1) (hne _ (by omega) (by omega)), fun i v g h1 h2 => (ho g (h.wlt h1 h2)).trans (h.tkw i v g h1 h2)⟩
  · exact heap_setCell_same w6 pw 4 _ _ v6 (hbx.trans h.box)
  · obtain ⟨l1, l2, l3⟩ := (h.tb j).lts
    exact ⟨(ho _ l1).trans (h.ot j).1, (ho _ l2).trans (h.ot j).2.1, (ho _ l3).trans (h.ot j).2.2⟩
  · refine hv6.keep (S := (· = pw)) ((Kq.refl _ _).setC ⟨pw, 4, none⟩ v6 (.inl rfl)) (fun g hg e => ?_)
    have e' : g = pw := e
    subst e'
    rcases hl6 with q | ⟨g', q, q2⟩
    · have := h.too g (q ▸ hg); rw [h.opw] at this; omega
    · have e2 : g' = g := Option.some.inj (q.symm.trans hg)
      have := h.ltw
      omega
  · show (if g < w.heap.size then own g else 7) = 7
    rcases hl6 with q | ⟨g', q, q2⟩
    · rw [ho g (World.ownsRow.lt h.ro g (q ▸ hg)).2]; exact h.too g (q ▸ hg)
    · have e2 : g' = g := Option.some.inj (q.symm.trans hg)
      rw [if_neg (by omega)]
  · rcases Nat.lt_or_ge i os.length with q | q
    · rw [List.getElem?_append_left q] at h1
      rw [List.getElem?_append_left (by rw [← h.lo]; exact q)] at h2
      exact Wo.kK (h.ko i u l' h1 h2) hk (10 + i) (h.tko i u · h1) (hne _ (by omega) (by omega))
    · have e : i = os.length := by
        have := (List.getElem?_eq_some_iff.mp h1).1
        simp at this; omega
      subst e
      rw [List.getElem?_append_right (Nat.le_refl _)] at h1
      rw [List.getElem?_append_right (by rw [h.lo]; exact Nat.le_refl _), h.lo] at h2
      simp at h1 h2
      subst h1 h2
      exact Wo.kK hkr hk _ ht (hne _ (by omega) (by omega))
  · rcases Nat.lt_or_ge i os.length with q | q
    · rw [List.getElem?_append_left q] at h1
      exact (ho g (h.olt h1 h2)).trans (h.tko i u g h1 h2)
    · have e : i = os.length := by
        have := (List.getElem?_eq_some_iff.mp h1).1
        simp at this; omega
      subst e
      rw [List.getElem?_append_right (Nat.le_refl _)] at h1
      simp at h1
      subst h1
      exact (ho g (World.ownsRow.lt hkr g h2).2).trans (ht g h2)
/-- A list of the reference's. -/
theorem Wo.pushW {w6 : World} {v6 v : Value} {l : List Kx} (h : Wo own w pw T vo vw os ws ls ms) (hg : w.grownBy w6 vw.ownBlock) (hv6 : VR w6 v6 (ws ++ [v])) (hl6 : v6.ownBlock = vw.ownBlock ∨ ∃ g, v6.ownBlock = some g ∧ w.heap.size ≤ g) (hkr : KR w 0 v l) (ht : ∀ g, v.ownBlock = some g → own g = 9) :
    Wo (fun g => if g < w.heap.size then own g else 8) (w6.setCell ⟨pw, 5, none⟩ v6) pw T vo v6 os (ws ++ [v]) ls (ms ++ [l]) := by
  have ho : ∀ g, g < w.heap.size → (if g < w.heap.size then own g else 8) = own g := fun g hg => if_pos hg
  have hk : Kq (fun g => vw.ownBlock = some g ∨ g = pw) w (w6.setCell ⟨pw, 5, none⟩ v6) := ((Kq.refl _ w).grown hg (fun g hg => .inl (.inl hg))).setC ⟨pw, 5, none⟩ v6 (.inl (.inr rfl))
  have hne : ∀ t, t ≠ 6 → t ≠ 8 → ∀ g, (vw.ownBlock = some g ∨ g = pw) → g < w.heap.size → own g ≠ t := fun t h1 h2 g hg _ e => by
    rcases hg with hg | rfl
    · exact h2 (e.symm.trans (h.tww g hg))
    · exact h1 (e.symm.trans h.opw)
  have hbx : w6.heap[pw]? = w.heap[pw]? := hg.block pw h.ltw (fun e => by have := h.tww pw e.symm; rw [h.opw] at this; omega)
  refine ⟨?_, (ho pw h.ltw).trans h.opw, fun j => h.kTb hk j (hne _ (by have := tgT_or j; omega) (by have := tgT_or j; omega)), fun j => ?_, fun j => h.kRf hk ho j (hne _ (by have := tgR_or j; omega) (by have := tgR_or j; omega)), fun j => (ho _ (h.rf j).lt).trans (h.orr j), Wo.kV h.ro hk 7 h.too (hne 7 (by omega) (by omega)), fun g hg => (ho g (World.ownsRow.lt h.ro g hg).2).trans (h.too g hg), ?_, fun g hg => ?_, h.lo, by simp [h.lw],
    fun i v l h1 h2 => Wo.kK (h.ko i v l h1 h2) hk (10 + i) (h.tko i v · h1) (hne _ (by omega) (by omega)), fun i v g h1 h2 => (ho g (h.olt h1 h2)).trans (h.tko i v g h1 h2), fun i u l' h1 h2 => ?_, fun i u g h1 h2 => ?_⟩
  · exact heap_setCell_same w6 pw 5 _ _ v6 (hbx.trans h.box)
  · obtain ⟨l1, l2, l3⟩ := (h.tb j).lts
    exact ⟨(ho _ l1).trans (h.ot j).1, (ho _ l2).trans (h.ot j).2.1, (ho _ l3).trans (h.ot j).2.2⟩
  · refine hv6.keep (S := (· = pw)) ((Kq.refl _ _).setC ⟨pw, 5, none⟩ v6 (.inl rfl)) (fun g hg e => ?_)
    have e' : g = pw := e
    subst e'
    rcases hl6 with q | ⟨g', q, q2⟩
    · have := h.tww g (q ▸ hg); rw [h.opw] at this; omega
    · have e2 : g' = g := Option.some.inj (q.symm.trans hg)
      have := h.ltw
      omega
  · show (if g < w.heap.size then own g else 8) = 8
    rcases hl6 with q | ⟨g', q, q2⟩
    · rw [ho g (World.ownsRow.lt h.rw g (q ▸ hg)).2]; exact h.tww g (q ▸ hg)
    · have e2 : g' = g := Option.some.inj (q.symm.trans hg)
      rw [if_neg (by omega)]
  · rcases Nat.lt_or_ge i ws.length with q | q
    · rw [List.getElem?_append_left q] at h1
      rw [List.getElem?_append_left (by rw [← h.lw]; exact q)] at h2
      exact Wo.kK (h.kw i u l' h1 h2) hk 9 (h.tkw i u · h1) (hne _ (by omega) (by omega))
    · have e : i = ws.length := by
        have := (List.getElem?_eq_some_iff.mp h1).1
        simp at this; omega
      subst e
      rw [List.getElem?_append_right (Nat.le_refl _)] at h1
      rw [List.getElem?_append_right (by rw [h.lw]; exact Nat.le_refl _), h.lw] at h2
      simp at h1 h2
      subst h1 h2
      exact Wo.kK hkr hk _ ht (hne _ (by omega) (by omega))
  · rcases Nat.lt_or_ge i ws.length with q | q
    · rw [List.getElem?_append_left q] at h1
      exact (ho g (h.wlt h1 h2)).trans (h.tkw i u g h1 h2)
    · have e : i = ws.length := by
        have := (List.getElem?_eq_some_iff.mp h1).1
        simp at this; omega
      subst e
      rw [List.getElem?_append_right (Nat.le_refl _)] at h1
      simp at h1
      subst h1
      exact (ho g (World.ownsRow.lt hkr g h2).2).trans (ht g h2)
end

end Go.Proofs.Ytnclfoljfnfglai
