import Derived.Test.YthkphihgdklbbaaDoorBrOwn
namespace Go.Proofs.YthkphihgdklbbaaDoor.C
open Go.RowKit Go.Shelf
set_option linter.unusedVariables false
set_option linter.unusedSimpArgs false

/-- The law's world behind n steps: what lies below base is nobody's. -/
def Ws4 (base : Nat) (w : World) (q n : Nat) : Prop := ∃ own B R b P vr vw vs vx rs ws ss xs C S, Wo4 own w q B R b P vr vw vs vx rs ws ss xs C S ∧ rs.length = ws.length ∧ ss.length = xs.length ∧ rs.length ≤ 2 * n ∧ ss.length ≤ 2 * n ∧ (∀ j, (C j).length ≤ 65536) ∧ (∀ j, (S j).length ≤ 2000) ∧ (∀ g, g < base → own g = 0) ∧ base ≤ w.heap.size
theorem Ws4.same {base q n : Nat} {w w' : World} (h : Ws4 base w q n) (hb : Below w.heap.size w w') : Ws4 base w' q n := by
  obtain ⟨own, B, R, b, P, vr, vw, vs, vx, rs, ws, ss, xs, C, S, h1, h2, h3, h4, h5, h6, h7, h8, h9⟩ := h
  exact ⟨_, B, R, b, P, vr, vw, vs, vx, rs, ws, ss, xs, C, S, h1.fresh hb 0, h2, h3, h4, h5, h6, h7, fun g hg => (tg_old (by omega)).trans (h8 g hg), Nat.le_trans h9 hb.size⟩
theorem Ws4.more {base q n m : Nat} {w : World} (h : Ws4 base w q n) (hm : n ≤ m) : Ws4 base w q m := by
  obtain ⟨own, B, R, b, P, vr, vw, vs, vx, rs, ws, ss, xs, C, S, h1, h2, h3, h4, h5, h6⟩ := h
  exact ⟨own, B, R, b, P, vr, vw, vs, vx, rs, ws, ss, xs, C, S, h1, h2, h3, by omega, by omega, h6⟩
theorem belowUp {a b c : World} (h : Below a.heap.size a b) (h' : Below b.heap.size b c) : Below a.heap.size a c := h.trans (h'.mono h.size)
theorem belowDn {base : Nat} {a b : World} (h : Below a.heap.size a b) (hb : base ≤ a.heap.size) : Below base a b := h.mono hb
/-- An Op's cells. -/
def opC (kd : Int) (k : Bool) (at' : Int) (ad : Option Addr) (nd cd : Nat) (f t : Int) : Array Value := #[.int .i64 kd, .bool k, .int .i64 at', .slice ad nd cd, .int .i64 f, .int .i64 t]
def updB {α : Type} (f : Bool → α) (k : Bool) (x : α) : Bool → α := fun j => if j = k then x else f j
theorem updB_same {α : Type} (f : Bool → α) (k : Bool) (x : α) : updB f k x k = x := if_pos rfl
theorem updB_other {α : Type} (f : Bool → α) {j k : Bool} (x : α) (h : j ≠ k) : updB f k x j = f j := if_neg h

set_option maxHeartbeats 8000000 in
set_option maxRecDepth 100000 in
theorem step_held (base q n : Nat) (kd : Int) (k : Bool) (at' : Int) (ad : Option Addr) (nd cd : Nat) (f t : Int) (w : World) (h : Ws4 base w q n) (hkd : kd = 4) :
    Calls Tryd.prog 7 #[.pointer (some ⟨q, 0, none⟩), .agg (opC kd k at' ad nd cd f t)] w fun e w' => e = .returned (.bool true) ∧ Ws4 base w' q (n + 1) ∧ Below base w w' := by
  obtain ⟨own, B, R, b, P, vr, vw, vs, vx, rs, ws, ss, xs, C, S, hW0, hl1, hl2, hl3, hl4, hC, hS, h0, hbs⟩ := h
  obtain ⟨gx, hgx⟩ : ∃ g, w.heap.size = g := ⟨_, rfl⟩
  obtain ⟨W, hWe⟩ : ∃ W, w.alloc (.cells #[.int .i64 kd, .bool k, .int .i64 at', .slice ad nd cd, .int .i64 f, .int .i64 t] 40) = W := ⟨_, rfl⟩
  have hbW : Below w.heap.size w W := by rw [← hWe]; exact (Below.refl _ _).alloc (Nat.le_refl _) _
  have hW := hW0.fresh hbW 0
  have hgW : gx < W.heap.size := by rw [← hgx, ← hWe]; simp
  have c0 : W.cell? ⟨gx, 0, none⟩ = some (.int .i64 kd) := by rw [← hWe, ← hgx]; simp
  have c1 : W.cell? ⟨gx, 1, none⟩ = some (.bool k) := by rw [← hWe, ← hgx]; simp
  have c2 : W.cell? ⟨gx, 2, none⟩ = some (.int .i64 at') := by rw [← hWe, ← hgx]; simp
  have c3 : W.cell? ⟨gx, 3, none⟩ = some (.slice ad nd cd) := by rw [← hWe, ← hgx]; simp
  have c4 : W.cell? ⟨gx, 4, none⟩ = some (.int .i64 f) := by rw [← hWe, ← hgx]; simp
  have c5 : W.cell? ⟨gx, 5, none⟩ = some (.int .i64 t) := by rw [← hWe, ← hgx]; simp
  obtain ⟨own1, hown1⟩ : ∃ o, tg own w 0 = o := ⟨_, rfl⟩
  rw [hown1] at hW
  have HWo : Hid (Wo4 own1 W q B R b P vr vw vs vx rs ws ss xs C S) := hW
  have H0 : Hid ((∀ g, g < base → own1 g = 0) ∧ base ≤ w.heap.size ∧ Below w.heap.size w W) := ⟨fun g hg => by rw [← hown1]; exact (tg_old (by omega)).trans (h0 g hg), hbs, hbW⟩
  have HTg : Hid (own1 gx = 0 ∧ gx < W.heap.size ∧ w.heap.size = gx) := ⟨by rw [← hown1, ← hgx]; exact tg_new (Nat.le_refl _), hgW, hgx⟩
  have HL : Hid (rs.length = ws.length ∧ ss.length = xs.length ∧ rs.length ≤ 2 * n ∧ ss.length ≤ 2 * n ∧ (∀ j, (C j).length ≤ 65536) ∧ (∀ j, (S j).length ≤ 2000)) := ⟨hl1, hl2, hl3, hl4, hC, hS⟩
  have HGx : Hid (w.heap.size = gx ∧ w.alloc (.cells #[.int .i64 kd, .bool k, .int .i64 at', .slice ad nd cd, .int .i64 f, .int .i64 t] 40) = W) := ⟨hgx, hWe⟩
  have hbx := hW.x.box
  have HE : Hid (if k = true then W.cell? ⟨q, 1, none⟩ = some (.pointer (some ⟨B k, 0, none⟩)) ∧ W.cell? ⟨q, 3, none⟩ = some (.pointer (some ⟨R k, 0, none⟩)) else W.cell? ⟨q, 0, none⟩ = some (.pointer (some ⟨B k, 0, none⟩)) ∧ W.cell? ⟨q, 2, none⟩ = some (.pointer (some ⟨R k, 0, none⟩))) := by
    cases k
    · exact ⟨cell_of_row _ _ 0 _ _ _ hbx, cell_of_row _ _ 2 _ _ _ hbx⟩
    · exact ⟨cell_of_row _ _ 1 _ _ _ hbx, cell_of_row _ _ 3 _ _ _ hbx⟩
  clear hW hW0 hbW hl1 hl2 hl3 hl4 hC hS h0 hbs hbx hgx hWe hown1
  subst hkd
  have hC1 : ∀ V, Below W.heap.size W V → Calls Tryd.prog 17 #[.pointer (some ⟨B k, 0, none⟩)] V fun e w1 => e = .returned (.int .i64 (heldN (b k))) ∧ Below V.heap.size V w1 := fun V hV => held_any _ _ _ V ((HWo.out.b.bu k).below hV)
  have hC2 : ∀ V, Below W.heap.size W V → Calls Tryd.prog 28 #[.pointer (some ⟨R k, 0, none⟩)] V fun e w1 => e = .returned (.int .i64 (heldN (b k))) ∧ Below V.heap.size V w1 := fun V hV => heldR_any _ _ _ _ V ((HWo.out.b.rf k).below hV) (HWo.out.b.rel k) (HWo.out.b.bu k).ok
  have HEnd : Hid (∀ V, Below W.heap.size W V → Ws4 base V q (n + 1) ∧ Below base w V) := fun V hV => by
    obtain ⟨k1, k2, k3, k4, k5, k6⟩ := HL.out
    have hh : Ws4 base W q n := ⟨own1, B, R, b, P, vr, vw, vs, vx, rs, ws, ss, xs, C, S, HWo.out, k1, k2, k3, k4, k5, k6, H0.out.1, Nat.le_trans H0.out.2.1 H0.out.2.2.size⟩
    exact ⟨(hh.same hV).more (by omega), belowDn (belowUp H0.out.2.2 hV) H0.out.2.1⟩
  have HC1 : Hid (∀ V, Below W.heap.size W V → Calls Tryd.prog 17 #[.pointer (some ⟨B k, 0, none⟩)] V fun e w1 => e = .returned (.int .i64 (heldN (b k))) ∧ Below V.heap.size V w1) := hC1
  have HC2 : Hid (∀ V, Below W.heap.size W V → Calls Tryd.prog 28 #[.pointer (some ⟨R k, 0, none⟩)] V fun e w1 => e = .returned (.int .i64 (heldN (b k))) ∧ Below V.heap.size V w1) := hC2
  clear hC1 hC2 HWo HL
  generalize heldN (b k) = hd at HC1 HC2
  generalize hBk : B k = Bk at HC1 HE
  generalize hRk : R k = Rk at HC2 HE
  clear hBk hRk
  unfold opC
  cases k <;>
  · have hE := HE.out
    simp only [if_true, Bool.false_eq_true, reduceIte] at hE
    obtain ⟨f0, f1⟩ := hE
    clear HE
    go_enter Tryd.func7, Tryd.ntmps7
    have hWg := HGx.out.2
    have hGg := HGx.out.1
    go_wp2_with (first
      | (go_at_call 17
         refine (HC1.out _ (Below.refl _ _)).mono ?_
         rintro e w1 ⟨rfl, hb1⟩
         have HB1 : Hid (Below W.heap.size W w1) := hb1
         clear hb1 c0 c1 c2 c3 c4 c5 f0 f1)
      | (go_at_call 28
         refine (HC2.out _ HB1.out).mono ?_
         rintro e w2 ⟨rfl, hb2⟩
         have HB2 : Hid (Below W.heap.size W w2) := belowUp HB1.out hb2
         clear hb2)
      | go_in)
    go_ret
    exact ⟨rfl, HEnd.out _ HB2.out⟩

end Go.Proofs.YthkphihgdklbbaaDoor.C

namespace Go.Proofs.YthkphihgdklbbaaDoor.C
open Go.RowKit Go.Shelf
set_option linter.unusedVariables false
set_option linter.unusedSimpArgs false

section
variable {D : Nat → Prop} {own own' : Nat → Nat} {w w' : World} {q : Nat} {B R : Bool → Nat} {b : Bool → Bf} {P : Bool → List Int} {vr vw vs vx : Value} {rs ws ss xs : List Value} {C : Nat → List Int} {S : Nat → List Sp}
/-- What is nobody's was written. -/
theorem Wo4.other (h : Wo4 own w q B R b P vr vw vs vx rs ws ss xs C S) (hk : Kg (fun x => x = 0) own w w') : Wo4 (tg own w 0) w' q B R b P vr vw vs vx rs ws ss xs C S :=
  ⟨h.x.keep hk (fun _ => tg_old) (by decide), h.b.keep hk (fun _ => tg_old) (fun t e => by omega), h.l.keep hk (fun _ => tg_old) (fun t e => by omega)⟩
/-- A call of the program's on one buffer, and the document's on its own. -/
theorem Wo4.two {w1 w2 : World} (h : Wo4 own w q B R b P vr vw vs vx rs ws ss xs C S) (k : Bool) {c : Bf} {L : List Int} (hf : Kf (fun g => own g = tgB k) w w1) (hB : Bu w1 (B k) (fun g => own g = tgB k ∧ g < w.heap.size ∨ w.heap.size ≤ g) c)
    (hf2 : Kf (fun g => tg own w (tgB k) g = tgQ k) w1 w2) (hR : Rf w2 (R k) (fun g => tg own w (tgB k) g = tgQ k ∧ g < w1.heap.size ∨ w1.heap.size ≤ g) L c.dr) (hr : RelB c L) :
    Wo4 (tg (tg own w (tgB k)) w1 (tgQ k)) w2 q B R (updB b k c) (updB P k L) vr vw vs vx rs ws ss xs C S := by
  obtain ⟨b1, b2, b3⟩ := h.b.prog k hf hB (fun _ _ => trivial)
  have k1 := Kg.kf hf
  have k2 := Kg.kf hf2
  have tb := tgB_or k
  have tq := tgQ_or k
  have hx := (h.x.keep (own' := tg own w (tgB k)) k1 (fun _ => tg_old) (by omega)).keep (own' := tg (tg own w (tgB k)) w1 (tgQ k)) k2 (fun _ => tg_old) (by omega)
  have hl := (h.l.keep (own' := tg own w (tgB k)) k1 (fun _ => tg_old) (fun t e => by omega)).keep (own' := tg (tg own w (tgB k)) w1 (tgQ k)) k2 (fun _ => tg_old) (fun t e => by omega)
  refine ⟨hx, ⟨fun j => ?_, fun j => ?_, fun j => ?_⟩, hl⟩
  · by_cases e : j = k
    · subst e; rw [updB_same]; exact b2.keepT k2 (fun _ => tg_old) (by omega)
    · rw [updB_other b c e]; exact (b1 j e).keepT k2 (fun _ => tg_old) (by have := tgB_or j; omega)
  · by_cases e : j = k
    · subst e
      rw [updB_same, updB_same]
      refine hR.mono (fun g hg => ?_)
      rcases hg with ⟨e, hl⟩ | e
      · exact (tg_old hl).trans e
      · exact tg_new e
    · rw [updB_other b c e, updB_other P L e]; exact (b3 j).keepT k2 (fun _ => tg_old) (tgQ_ne e)
  · by_cases e : j = k
    · subst e; rw [updB_same, updB_same]; exact hr
    · rw [updB_other b c e, updB_other P L e]; exact h.b.rel j
/-- A new pair. -/
theorem Wo4.newp (h : Wo4 own w q B R b P vr vw vs vx rs ws ss xs C S) (k : Bool) (hm : MkP4 q k (.pointer (some ⟨B false, 0, none⟩)) (.pointer (some ⟨B true, 0, none⟩)) (.pointer (some ⟨R false, 0, none⟩)) (.pointer (some ⟨R true, 0, none⟩)) vr vw vs vx w w') :
    ∃ own' B' R', (∀ g, g < w.heap.size → own' g = own g) ∧ Wo4 own' w' q B' R' (updB b k bf0) (updB P k []) vr vw vs vx rs ws ss xs C S := by
  obtain ⟨x, y, M, m1, m2, m3, m4, m5⟩ := hm
  have tb := tgB_or k
  have tq := tgQ_or k
  have hk : Kg (fun t => t = 1) own w w' := ⟨m5.size, fun g hg hn => m5.same g hg (fun e => hn (by rw [e]; exact h.x.tag))⟩
  obtain ⟨o, ho⟩ : ∃ o : Nat → Nat, o = fun g => if g < w.heap.size then own g else if g < M then tgB k else tgQ k := ⟨_, rfl⟩
  have o1 : ∀ g, g < w.heap.size → o g = own g := fun g hg => by rw [ho]; exact if_pos hg
  have o2 : ∀ g, w.heap.size ≤ g → g < M → o g = tgB k := fun g h1 h2 => by rw [ho]; show (if _ then _ else _) = _; rw [if_neg (by omega), if_pos h2]
  have o3 : ∀ g, w.heap.size ≤ g → M ≤ g → o g = tgQ k := fun g h1 h2 => by rw [ho]; show (if _ then _ else _) = _; rw [if_neg (by omega), if_neg (by omega)]
  refine ⟨o, updB B k x, updB R k y, o1, ⟨⟨?_, (o1 q h.x.lt).trans h.x.tag⟩, ⟨fun j => ?_, fun j => ?_, fun j => ?_⟩, h.l.keep hk o1 (fun t e => by omega)⟩⟩
  · rw [m1]; cases k <;> rfl
  · by_cases e : j = k
    · subst e; rw [updB_same, updB_same]; exact m2.mono (fun g hg => o2 g hg.1 hg.2)
    · rw [updB_other B x e, updB_other b bf0 e]; exact (h.b.bu j).keepT hk o1 (by have := tgB_or j; omega)
  · by_cases e : j = k
    · subst e; rw [updB_same, updB_same, updB_same]; exact m3.mono (fun g hg => o3 g (by omega) hg.1)
    · rw [updB_other R y e, updB_other b bf0 e, updB_other P [] e]; exact (h.b.rf j).keepT hk o1 (by have := tgQ_or j; omega)
  · by_cases e : j = k
    · subst e; rw [updB_same, updB_same]; exact relB0
    · rw [updB_other b bf0 e, updB_other P [] e]; exact h.b.rel j
end

end Go.Proofs.YthkphihgdklbbaaDoor.C

namespace Go.Proofs.YthkphihgdklbbaaDoor.C
open Go.RowKit Go.Shelf
set_option linter.unusedVariables false
set_option linter.unusedSimpArgs false

section
variable {base n : Nat} {own : Nat → Nat} {w w1 w2 : World} {q : Nat} {B R : Bool → Nat} {b : Bool → Bf} {P : Bool → List Int} {vr vw vs vx : Value} {rs ws ss xs : List Value} {C : Nat → List Int} {S : Nat → List Sp}
theorem bel_tag {w' : World} {t : Nat} (h0 : ∀ g, g < base → own g = 0) (hbs : base ≤ w.heap.size) (ht : t ≠ 0) (h : Kf (fun g => own g = t) w w') : Below base w w' :=
  h.bel hbs (fun g e => Nat.le_of_not_lt (fun hl => ht (e.symm.trans (h0 g hl))))
theorem two_ws (h : Wo4 own w q B R b P vr vw vs vx rs ws ss xs C S) (hl : rs.length = ws.length ∧ ss.length = xs.length ∧ rs.length ≤ 2 * n ∧ ss.length ≤ 2 * n ∧ (∀ j, (C j).length ≤ 65536) ∧ (∀ j, (S j).length ≤ 2000)) (h0 : ∀ g, g < base → own g = 0) (hbs : base ≤ w.heap.size)
    (k : Bool) {c : Bf} {L : List Int} (hf : Kf (fun g => own g = tgB k) w w1) (hB : Bu w1 (B k) (fun g => own g = tgB k ∨ w.heap.size ≤ g) c)
    (hf2 : Kf (fun g => tg own w (tgB k) g = tgQ k) w1 w2) (hR : Rf w2 (R k) (fun g => tg own w (tgB k) g = tgQ k ∨ w1.heap.size ≤ g) L c.dr) (hr : RelB c L) :
    (∃ own', Wo4 own' w2 q B R (updB b k c) (updB P k L) vr vw vs vx rs ws ss xs C S ∧ ∀ g, g < w.heap.size → own' g = own g) ∧ Ws4 base w2 q n ∧ Below base w w2 := by
  have tb := tgB_or k
  have tq := tgQ_or k
  have hW := h.two k hf (hB.mono (fun g e => e.elim (fun e => (Nat.lt_or_ge g w.heap.size).elim (fun hg => .inl ⟨e, hg⟩) .inr) .inr)) hf2 (hR.mono (fun g e => e.elim (fun e => (Nat.lt_or_ge g w1.heap.size).elim (fun hg => .inl ⟨e, hg⟩) .inr) .inr)) hr
  have hs1 := hf.size
  have hs2 := hf2.size
  have ho : ∀ g, g < w.heap.size → tg (tg own w (tgB k)) w1 (tgQ k) g = own g := fun g hg => (tg_old (by omega)).trans (tg_old hg)
  have hb1 : Below base w w1 := bel_tag h0 hbs (by omega) hf
  have hb2 : Below base w1 w2 := bel_tag (fun g hg => (tg_old (by omega)).trans (h0 g hg)) (by omega) (by omega) hf2
  obtain ⟨k1, k2, k3, k4, k5, k6⟩ := hl
  exact ⟨⟨_, hW, ho⟩, ⟨_, B, R, _, _, vr, vw, vs, vx, rs, ws, ss, xs, C, S, hW, k1, k2, k3, k4, k5, k6, fun g hg => (ho g (by omega)).trans (h0 g hg), by omega⟩, hb1.trans hb2⟩
end

set_option maxHeartbeats 8000000 in
set_option maxRecDepth 100000 in
theorem step_drop (base q n : Nat) (kd : Int) (k : Bool) (at' : Int) (ad : Option Addr) (nd cd : Nat) (f t : Int) (w : World) (h : Ws4 base w q n) (hkd : kd = 6) :
    Calls Tryd.prog 7 #[.pointer (some ⟨q, 0, none⟩), .agg (opC kd k at' ad nd cd f t)] w fun e w' => e = .returned (.bool true) ∧ Ws4 base w' q (n + 1) ∧ Below base w w' := by
  obtain ⟨own, B, R, b, P, vr, vw, vs, vx, rs, ws, ss, xs, C, S, hW0, hl1, hl2, hl3, hl4, hC, hS, h0, hbs⟩ := h
  obtain ⟨gx, hgx⟩ : ∃ g, w.heap.size = g := ⟨_, rfl⟩
  obtain ⟨W, hWe⟩ : ∃ W, w.alloc (.cells #[.int .i64 kd, .bool k, .int .i64 at', .slice ad nd cd, .int .i64 f, .int .i64 t] 40) = W := ⟨_, rfl⟩
  have hbW : Below w.heap.size w W := by rw [← hWe]; exact (Below.refl _ _).alloc (Nat.le_refl _) _
  have hW := hW0.fresh hbW 0
  have hgW : gx < W.heap.size := by rw [← hgx, ← hWe]; simp
  have c0 : W.cell? ⟨gx, 0, none⟩ = some (.int .i64 kd) := by rw [← hWe, ← hgx]; simp
  have c1 : W.cell? ⟨gx, 1, none⟩ = some (.bool k) := by rw [← hWe, ← hgx]; simp
  have c2 : W.cell? ⟨gx, 2, none⟩ = some (.int .i64 at') := by rw [← hWe, ← hgx]; simp
  have c3 : W.cell? ⟨gx, 3, none⟩ = some (.slice ad nd cd) := by rw [← hWe, ← hgx]; simp
  have c4 : W.cell? ⟨gx, 4, none⟩ = some (.int .i64 f) := by rw [← hWe, ← hgx]; simp
  have c5 : W.cell? ⟨gx, 5, none⟩ = some (.int .i64 t) := by rw [← hWe, ← hgx]; simp
  obtain ⟨own1, hown1⟩ : ∃ o, tg own w 0 = o := ⟨_, rfl⟩
  rw [hown1] at hW
  have HWo : Hid (Wo4 own1 W q B R b P vr vw vs vx rs ws ss xs C S) := hW
  have H0 : Hid ((∀ g, g < base → own1 g = 0) ∧ base ≤ w.heap.size ∧ Below w.heap.size w W) := ⟨fun g hg => by rw [← hown1]; exact (tg_old (by omega)).trans (h0 g hg), hbs, hbW⟩
  have HTg : Hid (own1 gx = 0 ∧ gx < W.heap.size ∧ w.heap.size = gx) := ⟨by rw [← hown1, ← hgx]; exact tg_new (Nat.le_refl _), hgW, hgx⟩
  have HL : Hid (rs.length = ws.length ∧ ss.length = xs.length ∧ rs.length ≤ 2 * n ∧ ss.length ≤ 2 * n ∧ (∀ j, (C j).length ≤ 65536) ∧ (∀ j, (S j).length ≤ 2000)) := ⟨hl1, hl2, hl3, hl4, hC, hS⟩
  have HGx : Hid (w.heap.size = gx ∧ w.alloc (.cells #[.int .i64 kd, .bool k, .int .i64 at', .slice ad nd cd, .int .i64 f, .int .i64 t] 40) = W) := ⟨hgx, hWe⟩
  have hbx := hW.x.box
  have HE : Hid (if k = true then W.cell? ⟨q, 1, none⟩ = some (.pointer (some ⟨B k, 0, none⟩)) ∧ W.cell? ⟨q, 3, none⟩ = some (.pointer (some ⟨R k, 0, none⟩)) else W.cell? ⟨q, 0, none⟩ = some (.pointer (some ⟨B k, 0, none⟩)) ∧ W.cell? ⟨q, 2, none⟩ = some (.pointer (some ⟨R k, 0, none⟩))) := by
    cases k
    · exact ⟨cell_of_row _ _ 0 _ _ _ hbx, cell_of_row _ _ 2 _ _ _ hbx⟩
    · exact ⟨cell_of_row _ _ 1 _ _ _ hbx, cell_of_row _ _ 3 _ _ _ hbx⟩
  clear hW hW0 hbW hl1 hl2 hl3 hl4 hC hS h0 hbs hbx hgx hWe hown1
  subst hkd
  have hC : Calls Tryd.prog 30 #[.pointer (some ⟨B k, 0, none⟩)] W fun e w1 => (∃ v, e = .returned v) ∧ Hid (Calls Tryd.prog 31 #[.pointer (some ⟨R k, 0, none⟩)] w1 fun e w2 => (∃ v, e = .returned v) ∧ Hid (Ws4 base w2 q (n + 1) ∧ Below base w w2)) := by
    refine (drop_any (B k) (b k) _ W (HWo.out.b.bu k)).mono ?_
    rintro e w1 ⟨he, hB1, hK1⟩
    refine ⟨he, ?_⟩
    have hR1 := (HWo.out.b.prog k hK1 (hB1.mono (G := fun g => own1 g = tgB k ∧ g < W.heap.size ∨ W.heap.size ≤ g) (fun g e => (Nat.lt_or_ge g W.heap.size).elim (fun hg => .inl ⟨e, hg⟩) .inr)) (fun _ _ => trivial)).2.2 k
    refine (dropR_any (R k) (P k) (b k).dr _ w1 hR1).mono ?_
    rintro e w2 ⟨he, hR2, hK2⟩
    refine ⟨he, ?_⟩
    have hh := two_ws (n := n) HWo.out HL.out H0.out.1 (Nat.le_trans H0.out.2.1 H0.out.2.2.size) k hK1 (hB1.mono (fun g e => .inl e)) hK2 (hR2.mono (fun g e => .inl e)) (drop_rel (HWo.out.b.rel k))
    exact ⟨hh.2.1.more (by omega), (belowDn H0.out.2.2 H0.out.2.1).trans hh.2.2⟩
  clear HWo HL H0
  generalize hBk : B k = Bk at hC HE
  generalize hRk : R k = Rk at hC HE
  clear hBk hRk
  unfold opC
  cases k <;>
  · have hE := HE.out
    simp only [if_true, Bool.false_eq_true, reduceIte] at hE
    obtain ⟨f0, f1⟩ := hE
    clear HE
    go_enter Tryd.func7, Tryd.ntmps7
    have hWg := HGx.out.2
    have hGg := HGx.out.1
    go_wp2_with (first
      | (go_at_call 30
         refine hC.mono ?_
         rintro e w1 ⟨⟨v1, rfl⟩, h1⟩
         clear hC c0 c1 c2 c3 c4 c5 f0 f1)
      | (go_at_call 31
         refine h1.out.mono ?_
         rintro e w2 ⟨⟨v2, rfl⟩, h2⟩
         clear h1)
      | go_in)
    go_ret
    exact ⟨rfl, h2.out⟩

set_option maxHeartbeats 8000000 in
set_option maxRecDepth 100000 in
theorem step_new (base q n : Nat) (kd : Int) (k : Bool) (at' : Int) (ad : Option Addr) (nd cd : Nat) (f t : Int) (w : World) (h : Ws4 base w q n) (hkd : kd = 7) :
    Calls Tryd.prog 7 #[.pointer (some ⟨q, 0, none⟩), .agg (opC kd k at' ad nd cd f t)] w fun e w' => e = .returned (.bool true) ∧ Ws4 base w' q (n + 1) ∧ Below base w w' := by
  obtain ⟨own, B, R, b, P, vr, vw, vs, vx, rs, ws, ss, xs, C, S, hW0, hl1, hl2, hl3, hl4, hC, hS, h0, hbs⟩ := h
  obtain ⟨gx, hgx⟩ : ∃ g, w.heap.size = g := ⟨_, rfl⟩
  obtain ⟨W, hWe⟩ : ∃ W, w.alloc (.cells #[.int .i64 kd, .bool k, .int .i64 at', .slice ad nd cd, .int .i64 f, .int .i64 t] 40) = W := ⟨_, rfl⟩
  have hbW : Below w.heap.size w W := by rw [← hWe]; exact (Below.refl _ _).alloc (Nat.le_refl _) _
  have hW := hW0.fresh hbW 0
  have hgW : gx < W.heap.size := by rw [← hgx, ← hWe]; simp
  have c0 : W.cell? ⟨gx, 0, none⟩ = some (.int .i64 kd) := by rw [← hWe, ← hgx]; simp
  have c1 : W.cell? ⟨gx, 1, none⟩ = some (.bool k) := by rw [← hWe, ← hgx]; simp
  have c2 : W.cell? ⟨gx, 2, none⟩ = some (.int .i64 at') := by rw [← hWe, ← hgx]; simp
  have c3 : W.cell? ⟨gx, 3, none⟩ = some (.slice ad nd cd) := by rw [← hWe, ← hgx]; simp
  have c4 : W.cell? ⟨gx, 4, none⟩ = some (.int .i64 f) := by rw [← hWe, ← hgx]; simp
  have c5 : W.cell? ⟨gx, 5, none⟩ = some (.int .i64 t) := by rw [← hWe, ← hgx]; simp
  obtain ⟨own1, hown1⟩ : ∃ o, tg own w 0 = o := ⟨_, rfl⟩
  rw [hown1] at hW
  have HWo : Hid (Wo4 own1 W q B R b P vr vw vs vx rs ws ss xs C S) := hW
  have H0 : Hid ((∀ g, g < base → own1 g = 0) ∧ base ≤ w.heap.size ∧ Below w.heap.size w W) := ⟨fun g hg => by rw [← hown1]; exact (tg_old (by omega)).trans (h0 g hg), hbs, hbW⟩
  have HTg : Hid (own1 gx = 0 ∧ gx < W.heap.size ∧ w.heap.size = gx) := ⟨by rw [← hown1, ← hgx]; exact tg_new (Nat.le_refl _), hgW, hgx⟩
  have HL : Hid (rs.length = ws.length ∧ ss.length = xs.length ∧ rs.length ≤ 2 * n ∧ ss.length ≤ 2 * n ∧ (∀ j, (C j).length ≤ 65536) ∧ (∀ j, (S j).length ≤ 2000)) := ⟨hl1, hl2, hl3, hl4, hC, hS⟩
  have HGx : Hid (w.heap.size = gx ∧ w.alloc (.cells #[.int .i64 kd, .bool k, .int .i64 at', .slice ad nd cd, .int .i64 f, .int .i64 t] 40) = W) := ⟨hgx, hWe⟩
  have hbx := hW.x.box
  have HE : Hid (if k = true then W.cell? ⟨q, 1, none⟩ = some (.pointer (some ⟨B k, 0, none⟩)) ∧ W.cell? ⟨q, 3, none⟩ = some (.pointer (some ⟨R k, 0, none⟩)) else W.cell? ⟨q, 0, none⟩ = some (.pointer (some ⟨B k, 0, none⟩)) ∧ W.cell? ⟨q, 2, none⟩ = some (.pointer (some ⟨R k, 0, none⟩))) := by
    cases k
    · exact ⟨cell_of_row _ _ 0 _ _ _ hbx, cell_of_row _ _ 2 _ _ _ hbx⟩
    · exact ⟨cell_of_row _ _ 1 _ _ _ hbx, cell_of_row _ _ 3 _ _ _ hbx⟩
  clear hW hW0 hbW hl1 hl2 hl3 hl4 hC hS h0 hbs hbx hgx hWe hown1
  subst hkd
  have hC : Calls Tryd.prog 6 #[.pointer (some ⟨q, 0, none⟩), .int .i64 (if k = true then 1 else 0)] W fun e w1 => e = .returned (.bool true) ∧ Hid (Ws4 base w1 q (n + 1) ∧ Below base w w1) := by
    have hq := HWo.out.x.box
    have key : ∀ w1, MkP4 q k (.pointer (some ⟨B false, 0, none⟩)) (.pointer (some ⟨B true, 0, none⟩)) (.pointer (some ⟨R false, 0, none⟩)) (.pointer (some ⟨R true, 0, none⟩)) vr vw vs vx W w1 → Ws4 base w1 q (n + 1) ∧ Below base w w1 := fun w1 hm => by
      have hm2 := hm
      obtain ⟨x, y, M, m1, m2, m3, m4, m5⟩ := hm2
      obtain ⟨o, B', R', ho, hW⟩ := HWo.out.newp k hm
      obtain ⟨k1, k2, k3, k4, k5, k6⟩ := HL.out
      have hsW : base ≤ W.heap.size := Nat.le_trans H0.out.2.1 H0.out.2.2.size
      have hsz := m5.size
      exact ⟨⟨o, B', R', _, _, vr, vw, vs, vx, rs, ws, ss, xs, C, S, hW, k1, k2, by omega, by omega, k5, k6, fun g hg => (ho g (by omega)).trans (H0.out.1 g hg), by omega⟩,
        (belowDn H0.out.2.2 H0.out.2.1).trans (m5.bel hsW (fun g e => Nat.le_of_not_lt (fun hl => by have h1 := H0.out.1 g hl; rw [e, HWo.out.x.tag] at h1; cases h1)))⟩
    cases k
    · exact (makes4_false q _ _ _ _ _ _ _ _ W hq).mono (fun e w1 h => ⟨h.1, key w1 h.2⟩)
    · exact (makes4_true q _ _ _ _ _ _ _ _ W hq).mono (fun e w1 h => ⟨h.1, key w1 h.2⟩)
  clear HWo HL H0
  unfold opC
  cases k <;>
  · have hE := HE.out
    simp only [if_true, Bool.false_eq_true, reduceIte] at hE
    obtain ⟨f0, f1⟩ := hE
    clear HE
    go_enter Tryd.func7, Tryd.ntmps7
    have hWg := HGx.out.2
    have hGg := HGx.out.1
    simp only [if_true, Bool.false_eq_true, reduceIte] at hC
    go_wp2_with (first
      | (go_at_call 6
         refine hC.mono ?_
         rintro e w1 ⟨rfl, h1⟩
         clear hC c0 c1 c2 c3 c4 c5 f0 f1)
      | go_in)
    go_ret
    exact ⟨rfl, h1.out⟩

set_option maxHeartbeats 8000000 in
set_option maxRecDepth 100000 in
theorem step_none (base q n : Nat) (kd : Int) (k : Bool) (at' : Int) (ad : Option Addr) (nd cd : Nat) (f t : Int) (w : World) (h : Ws4 base w q n) (hkd : ¬ kd = 1 ∧ ¬ kd = 2 ∧ ¬ kd = 3 ∧ ¬ kd = 4 ∧ ¬ kd = 5 ∧ ¬ kd = 6 ∧ ¬ kd = 7) :
    Calls Tryd.prog 7 #[.pointer (some ⟨q, 0, none⟩), .agg (opC kd k at' ad nd cd f t)] w fun e w' => e = .returned (.bool true) ∧ Ws4 base w' q (n + 1) ∧ Below base w w' := by
  obtain ⟨own, B, R, b, P, vr, vw, vs, vx, rs, ws, ss, xs, C, S, hW0, hl1, hl2, hl3, hl4, hC, hS, h0, hbs⟩ := h
  obtain ⟨gx, hgx⟩ : ∃ g, w.heap.size = g := ⟨_, rfl⟩
  obtain ⟨W, hWe⟩ : ∃ W, w.alloc (.cells #[.int .i64 kd, .bool k, .int .i64 at', .slice ad nd cd, .int .i64 f, .int .i64 t] 40) = W := ⟨_, rfl⟩
  have hbW : Below w.heap.size w W := by rw [← hWe]; exact (Below.refl _ _).alloc (Nat.le_refl _) _
  have hW := hW0.fresh hbW 0
  have hgW : gx < W.heap.size := by rw [← hgx, ← hWe]; simp
  have c0 : W.cell? ⟨gx, 0, none⟩ = some (.int .i64 kd) := by rw [← hWe, ← hgx]; simp
  have c1 : W.cell? ⟨gx, 1, none⟩ = some (.bool k) := by rw [← hWe, ← hgx]; simp
  have c2 : W.cell? ⟨gx, 2, none⟩ = some (.int .i64 at') := by rw [← hWe, ← hgx]; simp
  have c3 : W.cell? ⟨gx, 3, none⟩ = some (.slice ad nd cd) := by rw [← hWe, ← hgx]; simp
  have c4 : W.cell? ⟨gx, 4, none⟩ = some (.int .i64 f) := by rw [← hWe, ← hgx]; simp
  have c5 : W.cell? ⟨gx, 5, none⟩ = some (.int .i64 t) := by rw [← hWe, ← hgx]; simp
  obtain ⟨own1, hown1⟩ : ∃ o, tg own w 0 = o := ⟨_, rfl⟩
  rw [hown1] at hW
  have HWo : Hid (Wo4 own1 W q B R b P vr vw vs vx rs ws ss xs C S) := hW
  have H0 : Hid ((∀ g, g < base → own1 g = 0) ∧ base ≤ w.heap.size ∧ Below w.heap.size w W) := ⟨fun g hg => by rw [← hown1]; exact (tg_old (by omega)).trans (h0 g hg), hbs, hbW⟩
  have HTg : Hid (own1 gx = 0 ∧ gx < W.heap.size ∧ w.heap.size = gx) := ⟨by rw [← hown1, ← hgx]; exact tg_new (Nat.le_refl _), hgW, hgx⟩
  have HL : Hid (rs.length = ws.length ∧ ss.length = xs.length ∧ rs.length ≤ 2 * n ∧ ss.length ≤ 2 * n ∧ (∀ j, (C j).length ≤ 65536) ∧ (∀ j, (S j).length ≤ 2000)) := ⟨hl1, hl2, hl3, hl4, hC, hS⟩
  have HGx : Hid (w.heap.size = gx ∧ w.alloc (.cells #[.int .i64 kd, .bool k, .int .i64 at', .slice ad nd cd, .int .i64 f, .int .i64 t] 40) = W) := ⟨hgx, hWe⟩
  have hbx := hW.x.box
  have HE : Hid (if k = true then W.cell? ⟨q, 1, none⟩ = some (.pointer (some ⟨B k, 0, none⟩)) ∧ W.cell? ⟨q, 3, none⟩ = some (.pointer (some ⟨R k, 0, none⟩)) else W.cell? ⟨q, 0, none⟩ = some (.pointer (some ⟨B k, 0, none⟩)) ∧ W.cell? ⟨q, 2, none⟩ = some (.pointer (some ⟨R k, 0, none⟩))) := by
    cases k
    · exact ⟨cell_of_row _ _ 0 _ _ _ hbx, cell_of_row _ _ 2 _ _ _ hbx⟩
    · exact ⟨cell_of_row _ _ 1 _ _ _ hbx, cell_of_row _ _ 3 _ _ _ hbx⟩
  clear hW hW0 hbW hl1 hl2 hl3 hl4 hC hS h0 hbs hbx hgx hWe hown1
  obtain ⟨d1, d2, d3, d4, d5, d6, d7⟩ := hkd
  have HEnd : Hid (Ws4 base W q (n + 1) ∧ Below base w W) := by
    obtain ⟨k1, k2, k3, k4, k5, k6⟩ := HL.out
    have hh : Ws4 base W q n := ⟨own1, B, R, b, P, vr, vw, vs, vx, rs, ws, ss, xs, C, S, HWo.out, k1, k2, k3, k4, k5, k6, H0.out.1, Nat.le_trans H0.out.2.1 H0.out.2.2.size⟩
    exact ⟨hh.more (by omega), belowDn H0.out.2.2 H0.out.2.1⟩
  clear HWo HL H0
  unfold opC
  cases k <;>
  · have hE := HE.out
    simp only [if_true, Bool.false_eq_true, reduceIte] at hE
    obtain ⟨f0, f1⟩ := hE
    clear HE
    go_enter Tryd.func7, Tryd.ntmps7
    have hWg := HGx.out.2
    have hGg := HGx.out.1
    go_wp2
    go_ret
    exact ⟨rfl, HEnd.out⟩

end Go.Proofs.YthkphihgdklbbaaDoor.C
