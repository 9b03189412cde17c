import Derived.Test.YtdfdaambfihjaaaDoorLnW2
namespace Go.Proofs.YtdfdaambfihjaaaDoor.L
open Go.RowKit
set_option linter.unusedVariables false
set_option linter.unusedSimpArgs false

theorem Lw.nm {w : World} {p m : Nat} {lim K : Int} {x : Nat} {q : Nat → Qd} {M : Nat} (h : Lw w p m lim K (some (x, q)) M) : ∀ g, Fq x q g → g ≠ m := fun g hg e => by
  subst e
  obtain ⟨⟨b, c, _, hc⟩, hl⟩ := h.mp
  rcases hg with e | ⟨i, hi, hg⟩
  · rw [e, hl.box] at hc
    cases hc
  · obtain ⟨_, ⟨e1, _⟩ | ⟨g', cap', cur, e1, _, q1, _⟩⟩ := (hl.k i hi).row
    · rw [e1] at hg; cases hg
    · rw [e1] at hg
      simp only [Value.ownBlock, Option.some.injEq] at hg
      subst hg
      rw [hc] at q1
      cases q1
theorem Lw.ln {w : World} {p m : Nat} {lim K : Int} {x : Nat} {q : Nat → Qd} {M : Nat} (h : Lw w p m lim K (some (x, q)) M) : Ln w x q M := by
  obtain ⟨_, hl⟩ := h.mp
  exact hl
/-- The line alone was touched. -/
theorem Lw.line {S : Nat → Prop} {w w' : World} {p m : Nat} {lim K : Int} {x : Nat} {q q' : Nat → Qd} {M M' : Nat} (h : Lw w p m lim K (some (x, q)) M) (hl : Ln w' x q' M') (hk : Kl S w w') (hp : ¬ S p) (hm : ¬ S m) (hf : ∀ g, Fq x q' g → Fq x q g ∨ w.heap.size ≤ g) : Lw w' p m lim K (some (x, q')) M' := by
  have hml := h.lt (g := m) (.inl rfl)
  have hpl := (Array.getElem?_eq_some_iff.1 h.box).1
  obtain ⟨⟨b, c, hbc, hc⟩, _⟩ := h.mp
  refine ⟨(hk.block p hpl hp).trans h.box, fun g hg => ?_, ⟨b, c, hbc, (hk.block m hml hm).trans hc⟩, hl⟩
  rcases hg with e | hg
  · exact h.nx g (.inl e)
  · rcases hf g hg with e | e
    · exact h.nx g (.inr e)
    · omega
def Pk (o : Lo) : Nat → List Sv
  | 0 => []
  | k + 1 => Pk o k ++ Wt o k
def Rk (q : Nat → Qd) : Nat → List Sv
  | 0 => []
  | k + 1 => Rk q k ++ (q k).L
theorem Rk_up (q : Nat → Qd) (d : Qd) : ∀ (k i : Nat), k ≤ i → Rk (upq q i d) k = Rk q k
  | 0, i, h => rfl
  | k + 1, i, h => by
    show Rk (upq q i d) k ++ (upq q i d k).L = Rk q k ++ (q k).L
    rw [Rk_up q d k i (by omega), upq_other q d (by omega)]
def Cc (o : Lo) : List Sv := Pk o 3
theorem Cc_len (o : Lo) : (Cc o).length = cnt o := by simp [Cc, Pk, cnt]; omega
theorem Pk_some (x : Nat) (q : Nat → Qd) : ∀ k, Pk (some (x, q)) k = Rk q k
  | 0 => rfl
  | k + 1 => by show Pk (some (x, q)) k ++ Wt (some (x, q)) k = _; rw [Pk_some x q k]; rfl
theorem Pk_eq {o o' : Lo} (h : ∀ i, i < 3 → Wt o' i = Wt o i) : Cc o' = Cc o := by
  show ((([] ++ Wt o' 0) ++ Wt o' 1) ++ Wt o' 2) = ((([] ++ Wt o 0) ++ Wt o 1) ++ Wt o 2)
  rw [h 0 (by omega), h 1 (by omega), h 2 (by omega)]
/-- So far was taken. -/
structure Tk (w wr : World) (p m : Nat) (lim K : Int) (o : Lo) (M x most k : Nat) (qk : Nat → Qd) (ov : Value) : Prop where
  lw : Lw wr p m lim K (some (x, qk)) M
  kl : Kl (Fo m o) w wr
  fo : ∀ g, Fo m (some (x, qk)) g → Fo m o g ∨ w.heap.size ≤ g
  rem : Rk qk k = (Pk o k).drop most
  left : ∀ i, k ≤ i → i < 3 → (qk i).L = Wt o i
  out : wr.ownsRow 0 37 14 ov ((Pk o k).take most).length (seg ((Pk o k).take most))
  new : ∀ g, ov.ownBlock = some g → w.heap.size ≤ g
  ap : ∀ j g, j < 3 → (qk j).v.ownBlock = some g → ov.ownBlock ≠ some g
/-- What Take answers. -/
structure TkP (w w' : World) (p m : Nat) (lim K : Int) (o o' : Lo) (M most : Nat) (ov : Value) : Prop where
  lw : Lw w' p m lim K o' M
  kl : Kl (Fo m o) w w'
  fo : ∀ g, Fo m o' g → Fo m o g ∨ w.heap.size ≤ g
  rem : Cc o' = (Cc o).drop most
  out : w'.ownsRow 0 37 14 ov ((Cc o).take most).length (seg ((Cc o).take most))
  new : ∀ g, ov.ownBlock = some g → w.heap.size ≤ g ∧ ¬ Fo m o' g
theorem Wt_le {w : World} {p m : Nat} {lim K : Int} {o : Lo} {M : Nat} (h : Lw w p m lim K o M) (i : Nat) (hi : i < 3) : (Wt o i).length ≤ M := by
  rcases o with _ | ⟨x, q⟩
  · simp [Wt]
  · have := (h.ln.k i hi).small
    show (q i).L.length ≤ M
    omega

set_option maxRecDepth 100000 in
set_option maxHeartbeats 8000000 in
theorem take_any (w : World) (p m : Nat) (lim K : Int) (o : Lo) (M most : Nat) (h : Lw w p m lim K o M) (hM : M ≤ 17179869184) (hm : most ≤ 1152921504606846976) :
    Calls Tryd.prog 8 #[.pointer (some ⟨p, 0, none⟩), .int .i64 K, .int .i64 most] w fun e w' => ∃ ov o', e = .returned ov ∧ TkP w w' p m lim K o o' M most ov := by
  have c1 : w.cell? ⟨p, 1, none⟩ = some (.map (some m)) := (cell_of_row _ _ _ _ _ _ h.box).trans rfl
  have HL : Hid (Lw w p m lim K o M) := h
  have hmp := h.mp
  rcases o with _ | ⟨x, q⟩
  · obtain ⟨c, hc⟩ := hmp
    have hlk := look0 w m c K hc
    clear h hc
    go_enter Tryd.func8, Tryd.ntmps8
    go_wp2
    go_ret
    refine ⟨_, none, rfl, HL.out, Kl.refl _ _, fun g hg => .inl hg, ?_, ?_, fun g hg => (by cases hg)⟩
    · show [] = List.drop most []
      simp
    · have e : (Cc none).take most = [] := by show List.take most [] = []; simp
      rw [e]
      exact World.ownsRow_nil _ _ _ _
  · obtain ⟨⟨b, c, _, hc⟩, hl⟩ := hmp
    have hlk := look1 w m c x b K hc
    have HT0 : Hid (Tk w w p m lim K (some (x, q)) M x most 0 q (.slice none 0 0)) := ⟨h, Kl.refl _ _, fun g hg => .inl hg, by simp [Rk, Pk], fun i _ _ => rfl, by simp only [Pk, List.take_nil]; exact World.ownsRow_nil _ _ _ _, fun g hg => (by cases hg), fun j g _ _ e => (by cases e)⟩
    have HPl : Hid (∀ k, k ≤ 3 → (Pk (some (x, q)) k).length ≤ 3 * M) := fun k hk => by
      have h0 := Wt_le HL.out 0 (by omega)
      have h1 := Wt_le HL.out 1 (by omega)
      have h2 := Wt_le HL.out 2 (by omega)
      have e : k = 0 ∨ k = 1 ∨ k = 2 ∨ k = 3 := by omega
      rcases e with rfl | rfl | rfl | rfl <;> simp [Pk] <;> omega
    clear h hc hl
    go_enter Tryd.func8, Tryd.ntmps8
    go_wp2_with fail
    go_loopw [9, 22] (fun s9 s22 wr => ∃ k, k ≤ 3 ∧ s22 = .int .i64 (k : Nat) ∧ ∃ qk ov, ov = s9 ∧ Hid (Tk w wr p m lim K (some (x, q)) M x most k qk ov)) (fun _ s22 _ => 3 - (intOf s22).toNat)
    case atStart => exact ⟨0, by omega, rfl, q, _, rfl, HT0⟩
    case round =>
      obtain ⟨k, hk, rfl, qk, ov, hov9, HT⟩ := hrel
      subst hov9
      clear HT0
      by_cases hlt : k < 3
      · obtain ⟨oa, oc, hov⟩ := own_sl HT.out.out
        subst hov
        have hlt' : (k : Int) < 3 := by omega
        have h0k : 0 ≤ (k : Int) := by omega
        have hwk : IntKind.i64.wrap ((k : Int) + 1) = (k : Int) + 1 := by rw [IntKind.wrap_i64]; omega
        obtain ⟨N, hN⟩ : ∃ N, ((Pk (some (x, q)) k).take most).length = N := ⟨_, rfl⟩
        have hNm : N ≤ most := by rw [← hN]; simp; omega
        have hNb : N ≤ 3 * M := by rw [← hN]; have := HPl.out k hk; simp; omega
        obtain ⟨r, hr⟩ : ∃ r, most - N = r := ⟨_, rfl⟩
        have hwr : IntKind.i64.wrap ((most : Int) - (N : Int)) = (r : Int) := by rw [IntKind.wrap_i64]; omega
        have hir : (most : Int) - (N : Int) = (r : Int) := by omega
        have hco := ltake (HT.out.lw.ln) hlt (by omega) (.slice oa N oc) ((Pk (some (x, q)) k).take most) N (by have := HT.out.out; rw [hN] at this; exact this) (by omega) (fun j g hj hg => by have := HT.out.ap j g hj hg; rw [hN] at this; exact this) r (by omega)
        rw [hN]
        have HN : Hid (((Pk (some (x, q)) k).take most).length = N ∧ most - N = r) := ⟨hN, hr⟩
        clear hN hr
        go_wp2_with fail
        refine hco.mono ?_
        rintro e U ⟨ov', d, rfl, hd, l1, f1, o1, a1, ap1, k1⟩
        have HU : Hid (Tk w U p m lim K (some (x, q)) M x most (k + 1) (upq qk k d) ov') := by
          have hT := HT.out
          have eWk : (qk k).L = Wt (some (x, q)) k := hT.left k (Nat.le_refl _) hlt
          have hPl : N = min most (Pk (some (x, q)) k).length := by rw [← HN.out.1, List.length_take]
          have hrr : r = most - (Pk (some (x, q)) k).length := by have := HN.out.2; omega
          have hpn : ¬ (Fq x qk p ∨ (Value.slice oa N oc).ownBlock = some p) := fun e => by
            rcases e with e | e
            · exact hT.lw.nx p (.inr e) rfl
            · have h1 := hT.new p (by rw [HN.out.1]; exact e); have := (Array.getElem?_eq_some_iff.1 HL.out.box).1; omega
          have hmn : ¬ (Fq x qk m ∨ (Value.slice oa N oc).ownBlock = some m) := fun e => by
            rcases e with e | e
            · exact hT.lw.nm m e rfl
            · have h1 := hT.new m (by rw [HN.out.1]; exact e); have := HL.out.lt (g := m) (.inl rfl); omega
          have hlw := hT.lw.line l1 k1 hpn hmn f1
          refine ⟨hlw, hT.kl.then k1 (fun g hg e => ?_), fun g hg => ?_, ?_, fun i hi hi3 => ?_, ?_, fun g hg => ?_, ap1⟩
          · rcases e with e | e
            · rcases hT.fo g (.inr e) with e | e
              · exact e
              · omega
            · have := hT.new g (by rw [HN.out.1]; exact e); omega
          · rcases hg with e | hg
            · exact .inl (.inl e)
            · rcases f1 g hg with e | e
              · exact hT.fo g (.inr e)
              · exact .inr (Nat.le_trans hT.kl.size e)
          · show Rk (upq qk k d) k ++ (upq qk k d k).L = (Pk (some (x, q)) k ++ Wt (some (x, q)) k).drop most
            rw [Rk_up qk d k k (Nat.le_refl _), upq_same, hd, hT.rem, eWk, List.drop_append, hrr]
          · rw [upq_other qk d (by omega)]
            exact hT.left i (by omega) hi3
          · have e1 : (Pk (some (x, q)) (k + 1)).take most = (Pk (some (x, q)) k).take most ++ (qk k).L.take r := by
              show (Pk (some (x, q)) k ++ Wt (some (x, q)) k).take most = _
              rw [List.take_append, hrr, eWk]
            rw [e1, List.length_append, HN.out.1]
            exact o1
          · rcases a1 g hg with e | e
            · exact hT.new g (by rw [HN.out.1]; exact e)
            · exact Nat.le_trans hT.kl.size e
        clear hco hd l1 f1 o1 a1 ap1 k1
        go_wp2
        go_roundw
        case rel => exact ⟨k + 1, by omega, by go_num, _, _, rfl, HU⟩
        case measure => simp [intOf]; omega
      · obtain rfl : k = 3 := by omega
        have hfg := forget_any wr p m lim K (some (x, qk)) M HT.out.lw (by omega)
        go_wp2_with fail
        refine hfg.mono ?_
        rintro e U ⟨⟨u, rfl⟩, o', l1, w1, f1, k1, _⟩
        have HF : Hid (TkP w U p m lim K (some (x, q)) o' M most ov) := by
          have hT := HT.out
          have hnm : ∀ g, ov.ownBlock = some g → g ≠ m := fun g hg e => by
            have := hT.new g hg; have := HL.out.lt (g := m) (.inl rfl); omega
          refine ⟨l1, hT.kl.then k1 (fun g _ e => .inl e), fun g hg => hT.fo g (f1 g hg), ?_, k1.own hT.out (fun g hg e => hnm g hg e), fun g hg => ⟨hT.new g hg, fun e => ?_⟩⟩
          · rw [Pk_eq w1]
            show Pk (some (x, qk)) 3 = _
            rw [Pk_some, hT.rem]
            rfl
          · rcases f1 g e with e | e | ⟨i, hi, e⟩
            · exact hnm g hg e
            · subst e
              exact own_hp hT.out hT.lw.ln.box ln_ty hg
            · exact hT.ap i g hi e hg
        clear hfg l1 w1 f1 k1
        go_wp2
        go_ret
        exact ⟨_, _, rfl, HF.out⟩

end Go.Proofs.YtdfdaambfihjaaaDoor.L
