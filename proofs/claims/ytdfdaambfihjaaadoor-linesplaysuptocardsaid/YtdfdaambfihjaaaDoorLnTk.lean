import Derived.Test.YtdfdaambfihjaaaDoorLnRc
import Derived.Test.YtdfdaambfihjaaaDoorLnPu
import Derived.Test.YtdfdaambfihjaaaDoorLnRl
namespace Go.Proofs.YtdfdaambfihjaaaDoor.L
open Go.RowKit
set_option linter.unusedVariables false
set_option linter.unusedSimpArgs false

theorem Lw.nm {w : World} {p m : Nat} {lim K : Int} {x : Nat} {q : Nat → Qd} {M : Nat} (h : Lw w p m lim K (some (x, q)) M) : ∀ g, Fq x q g → g ≠ m := fun g hg e => by
  subst e
  obtain ⟨⟨b, c, _, hc⟩, hl⟩ := h.mp
  rcases hg with e | ⟨i, hi, hg⟩
  · rw [e, hl.box] at hc
    cases hc
  · obtain ⟨_, ⟨e1, _⟩ | ⟨g', cap', cur, e1, _, q1, _⟩⟩ := (hl.k i hi).row
    · rw [e1] at hg; cases hg
    · rw [e1] at hg
      simp only [Value.ownBlock, Option.some.injEq] at hg
      subst hg
      rw [hc] at q1
      cases q1
theorem Lw.ln {w : World} {p m : Nat} {lim K : Int} {x : Nat} {q : Nat → Qd} {M : Nat} (h : Lw w p m lim K (some (x, q)) M) : Ln w x q M := by
  obtain ⟨_, hl⟩ := h.mp
  exact hl
/-- The line alone was touched. -/
theorem Lw.line {S : Nat → Prop} {w w' : World} {p m : Nat} {lim K : Int} {x : Nat} {q q' : Nat → Qd} {M M' : Nat} (h : Lw w p m lim K (some (x, q)) M) (hl : Ln w' x q' M') (hk : Kl S w w') (hp : ¬ S p) (hm : ¬ S m) (hf : ∀ g, Fq x q' g → Fq x q g ∨ w.heap.size ≤ g) : Lw w' p m lim K (some (x, q')) M' := by
  have hml := h.lt (g := m) (.inl rfl)
  have hpl := (Array.getElem?_eq_some_iff.1 h.box).1
  obtain ⟨⟨b, c, hbc, hc⟩, _⟩ := h.mp
  refine ⟨(hk.block p hpl hp).trans h.box, fun g hg => ?_, ⟨b, c, hbc, (hk.block m hml hm).trans hc⟩, hl⟩
  rcases hg with e | hg
  · exact h.nx g (.inl e)
  · rcases hf g hg with e | e
    · exact h.nx g (.inr e)
    · omega
def Pk (o : Lo) : Nat → List Sv
  | 0 => []
  | k + 1 => Pk o k ++ Wt o k
def Rk (q : Nat → Qd) : Nat → List Sv
  | 0 => []
  | k + 1 => Rk q k ++ (q k).L
theorem Rk_up (q : Nat → Qd) (d : Qd) : ∀ (k i : Nat), k ≤ i → Rk (upq q i d) k = Rk q k
  | 0, i, h => rfl
  | k + 1, i, h => by
    show Rk (upq q i d) k ++ (upq q i d k).L = Rk q k ++ (q k).L
    rw [Rk_up q d k i (by omega), upq_other q d (by omega)]
def Cc (o : Lo) : List Sv := Pk o 3
theorem Pk_some (x : Nat) (q : Nat → Qd) : ∀ k, Pk (some (x, q)) k = Rk q k
  | 0 => rfl
  | k + 1 => by show Pk (some (x, q)) k ++ Wt (some (x, q)) k = _; rw [Pk_some x q k]; rfl
theorem Pk_eq {o o' : Lo} (h : ∀ i, i < 3 → Wt o' i = Wt o i) : Cc o' = Cc o := by
  show ((([] ++ Wt o' 0) ++ Wt o' 1) ++ Wt o' 2) = ((([] ++ Wt o 0) ++ Wt o 1) ++ Wt o 2)
  rw [h 0 (by omega), h 1 (by omega), h 2 (by omega)]
/-- So far was taken. -/
structure Tk (w wr : World) (p m : Nat) (lim K : Int) (o : Lo) (M x most k : Nat) (qk : Nat → Qd) (ov : Value) : Prop where
  lw : Lw wr p m lim K (some (x, qk)) M
  kl : Kl (Fo m o) w wr
  fo : ∀ g, Fo m (some (x, qk)) g → Fo m o g ∨ w.heap.size ≤ g
  rem : Rk qk k = (Pk o k).drop most
  left : ∀ i, k ≤ i → i < 3 → (qk i).L = Wt o i
  out : wr.ownsRow 0 37 14 ov ((Pk o k).take most).length (seg ((Pk o k).take most))
  new : ∀ g, ov.ownBlock = some g → w.heap.size ≤ g
  ap : ∀ j g, j < 3 → (qk j).v.ownBlock = some g → ov.ownBlock ≠ some g
/-- What Take answers. -/
structure TkP (w w' : World) (p m : Nat) (lim K : Int) (o o' : Lo) (M most : Nat) (ov : Value) : Prop where
  lw : Lw w' p m lim K o' M
  kl : Kl (Fo m o) w w'
  fo : ∀ g, Fo m o' g → Fo m o g ∨ w.heap.size ≤ g
  rem : Cc o' = (Cc o).drop most
  out : w'.ownsRow 0 37 14 ov ((Cc o).take most).length (seg ((Cc o).take most))
  new : ∀ g, ov.ownBlock = some g → w.heap.size ≤ g ∧ ¬ Fo m o' g
theorem Wt_le {w : World} {p m : Nat} {lim K : Int} {o : Lo} {M : Nat} (h : Lw w p m lim K o M) (i : Nat) (hi : i < 3) : (Wt o i).length ≤ M := by
  rcases o with _ | ⟨x, q⟩
  · simp [Wt]
  · have := (h.ln.k i hi).small
    show (q i).L.length ≤ M
    omega

set_option maxRecDepth 100000 in
set_option maxHeartbeats 8000000 in
theorem take_any (w : World) (p m : Nat) (lim K : Int) (o : Lo) (M most : Nat) (h : Lw w p m lim K o M) (hM : M ≤ 17179869184) (hm : most ≤ 1152921504606846976) :
    Calls Tryd.prog 8 #[.pointer (some ⟨p, 0, none⟩), .int .i64 K, .int .i64 most] w fun e w' => ∃ ov o', e = .returned ov ∧ TkP w w' p m lim K o o' M most ov := by
  have c1 : w.cell? ⟨p, 1, none⟩ = some (.map (some m)) := (cell_of_row _ _ _ _ _ _ h.box).trans rfl
  have HL : Hid (Lw w p m lim K o M) := h
  have hmp := h.mp
  rcases o with _ | ⟨x, q⟩
  · obtain ⟨c, hc⟩ := hmp
    have hlk := look0 w m c K hc
    clear h hc
    go_enter Tryd.func8, Tryd.ntmps8
    go_wp2
    go_ret
    refine ⟨_, none, rfl, HL.out, Kl.refl _ _, fun g hg => .inl hg, ?_, ?_, fun g hg => (by cases hg)⟩
    · show [] = List.drop most []
      simp
    · have e : (Cc none).take most = [] := by show List.take most [] = []; simp
      rw [e]
      exact World.ownsRow_nil _ _ _ _
  · obtain ⟨⟨b, c, _, hc⟩, hl⟩ := hmp
    have hlk := look1 w m c x b K hc
    have HT0 : Hid (Tk w w p m lim K (some (x, q)) M x most 0 q (.slice none 0 0)) := ⟨h, Kl.refl _ _, fun g hg => .inl hg, by simp [Rk, Pk], fun i _ _ => rfl, by simp only [Pk, List.take_nil]; exact World.ownsRow_nil _ _ _ _, fun g hg => (by cases hg), fun j g _ _ e => (by cases e)⟩
    have HPl : Hid (∀ k, k ≤ 3 → (Pk (some (x, q)) k).length ≤ 3 * M) := fun k hk => by
      have h0 := Wt_le HL.out 0 (by omega)
      have h1 := Wt_le HL.out 1 (by omega)
      have h2 := Wt_le HL.out 2 (by omega)
      have e : k = 0 ∨ k = 1 ∨ k = 2 ∨ k = 3 := by omega
      rcases e with rfl | rfl | rfl | rfl <;> simp [Pk] <;> omega
    clear h hc hl
    go_enter Tryd.func8, Tryd.ntmps8
    go_wp2_with fail
    go_loopw [9, 22] (fun s9 s22 wr => ∃ k, k ≤ 3 ∧ s22 = .int .i64 (k : Nat) ∧ ∃ qk ov, ov = s9 ∧ Hid (Tk w wr p m lim K (some (x, q)) M x most k qk ov)) (fun _ s22 _ => 3 - (intOf s22).toNat)
    case atStart => exact ⟨0, by omega, rfl, q, _, rfl, HT0⟩
    case round =>
      obtain ⟨k, hk, rfl, qk, ov, hov9, HT⟩ := hrel
      subst hov9
      clear HT0
      by_cases hlt : k < 3
      · obtain ⟨oa, oc, hov⟩ := own_sl HT.out.out
        subst hov
        have hlt' : (k : Int) < 3 := by omega
        have h0k : 0 ≤ (k : Int) := by omega
        have hwk : IntKind.i64.wrap ((k : Int) + 1) = (k : Int) + 1 := by rw [IntKind.wrap_i64]; omega
        obtain ⟨N, hN⟩ : ∃ N, ((Pk (some (x, q)) k).take most).length = N := ⟨_, rfl⟩
        have hNm : N ≤ most := by rw [← hN]; simp; omega
        have hNb : N ≤ 3 * M := by rw [← hN]; have := HPl.out k hk; simp; omega
        obtain ⟨r, hr⟩ : ∃ r, most - N = r := ⟨_, rfl⟩
        have hwr : IntKind.i64.wrap ((most : Int) - (N : Int)) = (r : Int) := by rw [IntKind.wrap_i64]; omega
        have hir : (most : Int) - (N : Int) = (r : Int) := by omega
        have hco := ltake (HT.out.lw.ln) hlt (by omega) (.slice oa N oc) ((Pk (some (x, q)) k).take most) N (by have := HT.out.out; rw [hN] at this; exact this) (by omega) (fun j g hj hg => by have := HT.out.ap j g hj hg; rw [hN] at this; exact this) r (by omega)
        rw [hN]
        have HN : Hid (((Pk (some (x, q)) k).take most).length = N ∧ most - N = r) := ⟨hN, hr⟩
        clear hN hr
        go_wp2_with fail
        refine hco.mono ?_
        rintro e U ⟨ov', d, rfl, hd, l1, f1, o1, a1, ap1, k1⟩
        have HU : Hid (Tk w U p m lim K (some (x, q)) M x most (k + 1) (upq qk k d) ov') := by
          have hT := HT.out
          have eWk : (qk k).L = Wt (some (x, q)) k := hT.left k (Nat.le_refl _) hlt
          have hPl : N = min most (Pk (some (x, q)) k).length := by rw [← HN.out.1, List.length_take]
          have hrr : r = most - (Pk (some (x, q)) k).length := by have := HN.out.2; omega
          have hpn : ¬ (Fq x qk p ∨ (Value.slice oa N oc).ownBlock = some p) := fun e => by
            rcases e with e | e
            · exact hT.lw.nx p (.inr e) rfl
            · have h1 := hT.new p (by rw [HN.out.1]; exact e); have := (Array.getElem?_eq_some_iff.1 HL.out.box).1; omega
          have hmn : ¬ (Fq x qk m ∨ (Value.slice oa N oc).ownBlock = some m) := fun e => by
            rcases e with e | e
            · exact hT.lw.nm m e rfl
            · have h1 := hT.new m (by rw [HN.out.1]; exact e); have := HL.out.lt (g := m) (.inl rfl); omega
          have hlw := hT.lw.line l1 k1 hpn hmn f1
          refine ⟨hlw, hT.kl.then k1 (fun g hg e => ?_), fun g hg => ?_, ?_, fun i hi hi3 => ?_, ?_, fun g hg => ?_, ap1⟩
          · rcases e with e | e
            · rcases hT.fo g (.inr e) with e | e
              · exact e
              · omega
            · have := hT.new g (by rw [HN.out.1]; exact e); omega
          · rcases hg with e | hg
            · exact .inl (.inl e)
            · rcases f1 g hg with e | e
              · exact hT.fo g (.inr e)
              · exact .inr (Nat.le_trans hT.kl.size e)
          · show Rk (upq qk k d) k ++ (upq qk k d k).L = (Pk (some (x, q)) k ++ Wt (some (x, q)) k).drop most
            rw [Rk_up qk d k k (Nat.le_refl _), upq_same, hd, hT.rem, eWk, List.drop_append, hrr]
          · rw [upq_other qk d (by omega)]
            exact hT.left i (by omega) hi3
          · have e1 : (Pk (some (x, q)) (k + 1)).take most = (Pk (some (x, q)) k).take most ++ (qk k).L.take r := by
              show (Pk (some (x, q)) k ++ Wt (some (x, q)) k).take most = _
              rw [List.take_append, hrr, eWk]
            rw [e1, List.length_append, HN.out.1]
            exact o1
          · rcases a1 g hg with e | e
            · exact hT.new g (by rw [HN.out.1]; exact e)
            · exact Nat.le_trans hT.kl.size e
        clear hco hd l1 f1 o1 a1 ap1 k1
        go_wp2
        go_roundw
        case rel => exact ⟨k + 1, by omega, by go_num, _, _, rfl, HU⟩
        case measure => simp [intOf]; omega
      · obtain rfl : k = 3 := by omega
        have hfg := forget_any wr p m lim K (some (x, qk)) M HT.out.lw (by omega)
        go_wp2_with fail
        refine hfg.mono ?_
        rintro e U ⟨⟨u, rfl⟩, o', l1, w1, f1, k1, _⟩
        have HF : Hid (TkP w U p m lim K (some (x, q)) o' M most ov) := by
          have hT := HT.out
          have hnm : ∀ g, ov.ownBlock = some g → g ≠ m := fun g hg e => by
            have := hT.new g hg; have := HL.out.lt (g := m) (.inl rfl); omega
          refine ⟨l1, hT.kl.then k1 (fun g _ e => .inl e), fun g hg => hT.fo g (f1 g hg), ?_, k1.own hT.out (fun g hg e => hnm g hg e), fun g hg => ⟨hT.new g hg, fun e => ?_⟩⟩
          · rw [Pk_eq w1]
            show Pk (some (x, qk)) 3 = _
            rw [Pk_some, hT.rem]
            rfl
          · rcases f1 g e with e | e | ⟨i, hi, e⟩
            · exact hnm g hg e
            · subst e
              exact own_hp hT.out hT.lw.ln.box ln_ty hg
            · exact hT.ap i g hi e hg
        clear hfg l1 w1 f1 k1
        go_wp2
        go_ret
        exact ⟨_, _, rfl, HF.out⟩

end Go.Proofs.YtdfdaambfihjaaaDoor.L

namespace Go.Proofs.YtdfdaambfihjaaaDoor.L
open Go.RowKit
set_option linter.unusedVariables false
set_option linter.unusedSimpArgs false

/-! ## The range over the map of one line at most -/
theorem rg1 (w : World) (m clock : Nat) (es : Array MapEntry) (hm : w.heap[m]? = some (.map es clock)) :
    (Instr.range 61 (.map (some m))).run Tryd.prog w = .ok (.pointer (some ⟨w.heap.size, 0, none⟩)) (w.alloc (.mapIter (some m) clock #[] clock)) := by
  simp [Instr.range, run_underlying Tryd.underlying61, MapKept.run_getObj_map hm]

/-- What Drop leaves. -/
structure DpP (w w' : World) (p m : Nat) (lim K : Int) (o o' : Lo) (M : Nat) (S1 S2 : Int) (all : Bool) : Prop where
  lw : Lw w' p m lim K o' M
  w0 : Wt o' 0 = Wt o 0
  w1 : Wt o' 1 = kp S1 S2 all (Wt o 1)
  w2 : Wt o' 2 = kp S1 S2 all (Wt o 2)
  fo : ∀ g, Fo m o' g → Fo m o g ∨ w.heap.size ≤ g
  kl : Kl (Fo m o) w w'
def dpn (o : Lo) (S1 S2 : Int) (all : Bool) : Nat := ((Wt o 1).length - (kp S1 S2 all (Wt o 1)).length) + ((Wt o 2).length - (kp S1 S2 all (Wt o 2)).length)

end Go.Proofs.YtdfdaambfihjaaaDoor.L

namespace Go.Proofs.YtdfdaambfihjaaaDoor.L
open Go.RowKit
set_option linter.unusedVariables false
set_option linter.unusedSimpArgs false

/-! ## Rows of segments that are read -/
def Rw (w : World) (v : Value) (L : List Sv) : Prop := ∃ a c, v = .slice a L.length c ∧ (L = [] ∨ ∃ g off, a = some ⟨g, off, none⟩ ∧ Sd w g off L)
theorem sd_cells {w : World} {g off : Nat} {L : List Sv} (h : Sd w g off L) {k : Nat} {y : Sv} (hk : L[k]? = some y) : w.cell? ⟨g, off + k * 14, none⟩ = some (.int .i64 y.s.typ) ∧ w.cell? ⟨g, off + k * 14 + 1, none⟩ = some (.int .i64 y.s.org) ∧ w.cell? ⟨g, off + k * 14 + 2, none⟩ = some (.int .i64 y.s.num) ∧ w.cell? ⟨g, off + k * 14 + 3, none⟩ = some y.hv ∧ w.cell? ⟨g, off + k * 14 + 4, none⟩ = some y.tv ∧ w.cell? ⟨g, off + k * 14 + 5, none⟩ = some (.int .i64 y.s.srv) ∧ w.cell? ⟨g, off + k * 14 + 6, none⟩ = some (.int .i64 y.s.off) ∧ w.cell? ⟨g, off + k * 14 + 7, none⟩ = some y.dv ∧ w.cell? ⟨g, off + k * 14 + 8, none⟩ = some (.int .i64 y.s.chk) ∧ w.cell? ⟨g, off + k * 14 + 9, none⟩ = some (.int .i64 y.s.rep) ∧ w.cell? ⟨g, off + k * 14 + 10, none⟩ = some (.int .i64 y.s.upp) ∧ w.cell? ⟨g, off + k * 14 + 11, none⟩ = some (.int .i64 y.s.low) ∧ w.cell? ⟨g, off + k * 14 + 12, none⟩ = some y.cv ∧ w.cell? ⟨g, off + k * 14 + 13, none⟩ = some (.int .i64 y.s.rsn) := by
  have c := fun j u hj => h k y hk j u hj
  refine ⟨c 0 _ rfl, c 1 _ rfl, c 2 _ rfl, c 3 _ rfl, c 4 _ rfl, c 5 _ rfl, c 6 _ rfl, c 7 _ rfl, c 8 _ rfl, c 9 _ rfl, c 10 _ rfl, c 11 _ rfl, c 12 _ rfl, c 13 _ rfl⟩
theorem own_rw {w : World} {base : Nat} {v : Value} {L : List Sv} (h : w.ownsRow base 37 14 v L.length (seg L)) : Rw w v L := by
  obtain ⟨a, c, hv⟩ := own_sl h
  refine ⟨a, c, hv, ?_⟩
  obtain ⟨_, ⟨e1, e2⟩ | ⟨g, cap, cur, e1, _⟩⟩ := id h
  · exact .inl (List.eq_nil_of_length_eq_zero e2)
  · rw [e1] at hv h
    simp only [Value.slice.injEq] at hv
    refine .inr ⟨g, 0, hv.1.symm, fun i y hi j u hj => ?_⟩
    have hjl : j < 14 := (List.getElem?_eq_some_iff.mp hj).1
    have hs : (seg L)[i * 14 + j]? = some u := by
      have h1 := seg_drop L i
      rw [drop_get L i y hi] at h1
      have h2 : seg (y :: L.drop (i + 1)) = y.L ++ seg (L.drop (i + 1)) := List.flatMap_cons
      rw [← List.getElem?_drop, h1, h2, List.getElem?_append_left (by exact hjl)]
      exact hj
    have := h.cells (g := g) rfl (i * 14 + j) u hs
    rw [addr_add, Nat.zero_add] at this
    rw [Nat.zero_add]
    exact this
theorem same_ok {w : World} {x y : Sv} (hx : SAt w x) (hy : SAt w y) (e : x.s = y.s) :
    Calls Tryd.prog 26 #[.agg (svC x.s x.hv x.tv x.dv x.cv), .agg (svC y.s y.hv y.tv y.dv y.cv)] w fun e w' => e = .returned (.bool true) ∧ Below w.heap.size w w' := by
  obtain ⟨h1, t1, s1⟩ := hx
  obtain ⟨h2, t2, s2⟩ := hy
  refine (same_gen2 x.s y.s _ _ _ _ _ _ _ _ h1 t1 h2 t2 w s1 s2).mono ?_
  rintro e' w' ⟨q, rfl, hq, hb⟩
  rw [hq e]
  exact ⟨rfl, hb⟩
theorem SAt.below {w w' : World} {y : Sv} (h : SAt w y) (hb : Below w.heap.size w w') : SAt w' y := by
  obtain ⟨hx, tx, h⟩ := h
  exact ⟨hx, tx, h.below hb⟩

set_option maxRecDepth 100000 in
set_option maxHeartbeats 8000000 in
theorem sameAll_any (w : World) (va vb : Value) (X Y : List Sv) (hX : Rw w va X) (hY : Rw w vb Y) (hs : X.map Sv.s = Y.map Sv.s) (aX : ∀ y ∈ X, SAt w y) (aY : ∀ y ∈ Y, SAt w y) (n : Nat) (hn : X.length = n) (hnb : n ≤ 68719476736) :
    Calls Tryd.prog 10 #[va, vb] w fun e w' => e = .returned (.bool true) ∧ Below w.heap.size w w' := by
  have hl : Y.length = n := by have := congrArg List.length hs; simp at this; omega
  have HX : Hid (Rw w va X ∧ Rw w vb Y) := ⟨hX, hY⟩
  obtain ⟨aa, ac, rfl, hX⟩ := hX
  obtain ⟨ba, bc, rfl, hY⟩ := hY
  have HA : Hid ((∀ y ∈ X, SAt w y) ∧ (∀ y ∈ Y, SAt w y) ∧ X.map Sv.s = Y.map Sv.s ∧ X.length = n ∧ Y.length = n ∧ (X = [] ∨ ∃ g off, aa = some ⟨g, off, none⟩ ∧ Sd w g off X) ∧ (Y = [] ∨ ∃ g off, ba = some ⟨g, off, none⟩ ∧ Sd w g off Y)) := ⟨aX, aY, hs, hn, hl, hX, hY⟩
  rw [hn, hl]
  clear hX hY hs aX aY hn hl HX
  go_enter Tryd.func10, Tryd.ntmps10
  go_wp2_with fail
  go_loopw [5] (fun s5 wr => ∃ k : Nat, k ≤ n ∧ s5 = .int .i64 k ∧ Hid (Below w.heap.size w wr)) (fun s5 _ => n - (intOf s5).toNat)
  case atStart => exact ⟨0, by omega, rfl, Below.refl _ _⟩
  case round =>
    obtain ⟨k, hk, rfl, HB⟩ := hrel
    by_cases hlt : k < n
    · have hlt' : (k : Int) < (n : Int) := by omega
      have h0k : 0 ≤ (k : Int) := by omega
      have hwk : IntKind.i64.wrap ((k : Int) + 1) = (k : Int) + 1 := by rw [IntKind.wrap_i64]; omega
      obtain ⟨a1, a2, a3, a4, a5, a6, a7⟩ := HA.out
      obtain ⟨x, hx⟩ := get_one X k (by omega)
      obtain ⟨y, hy⟩ := get_one Y k (by omega)
      have exy : x.s = y.s := by
        have := congrArg (fun l => l[k]?) a3
        simp [hx, hy] at this
        exact this
      have hcall := same_ok ((a1 x (List.mem_of_getElem? hx)).below (w' := wr.drew) ⟨HB.out.os, HB.out.tape, HB.out.output, HB.out.size, HB.out.block⟩) ((a2 y (List.mem_of_getElem? hy)).below ⟨HB.out.os, HB.out.tape, HB.out.output, HB.out.size, HB.out.block⟩) exy
      rcases a6 with e | ⟨g, off, rfl, sdx⟩
      · rw [e] at hx; simp at hx
      rcases a7 with e | ⟨g2, off2, rfl, sdy⟩
      · rw [e] at hy; simp at hy
      have HC : Hid (∀ V : World, Below wr.heap.size wr V → V.cell? ⟨g, off + k * 14, none⟩ = some (.int .i64 x.s.typ) ∧ V.cell? ⟨g, off + k * 14 + 1, none⟩ = some (.int .i64 x.s.org) ∧ V.cell? ⟨g, off + k * 14 + 2, none⟩ = some (.int .i64 x.s.num) ∧ V.cell? ⟨g, off + k * 14 + 3, none⟩ = some x.hv ∧ V.cell? ⟨g, off + k * 14 + 4, none⟩ = some x.tv ∧ V.cell? ⟨g, off + k * 14 + 5, none⟩ = some (.int .i64 x.s.srv) ∧ V.cell? ⟨g, off + k * 14 + 6, none⟩ = some (.int .i64 x.s.off) ∧ V.cell? ⟨g, off + k * 14 + 7, none⟩ = some x.dv ∧ V.cell? ⟨g, off + k * 14 + 8, none⟩ = some (.int .i64 x.s.chk) ∧ V.cell? ⟨g, off + k * 14 + 9, none⟩ = some (.int .i64 x.s.rep) ∧ V.cell? ⟨g, off + k * 14 + 10, none⟩ = some (.int .i64 x.s.upp) ∧ V.cell? ⟨g, off + k * 14 + 11, none⟩ = some (.int .i64 x.s.low) ∧ V.cell? ⟨g, off + k * 14 + 12, none⟩ = some x.cv ∧ V.cell? ⟨g, off + k * 14 + 13, none⟩ = some (.int .i64 x.s.rsn) ∧ V.cell? ⟨g2, off2 + k * 14, none⟩ = some (.int .i64 y.s.typ) ∧ V.cell? ⟨g2, off2 + k * 14 + 1, none⟩ = some (.int .i64 y.s.org) ∧ V.cell? ⟨g2, off2 + k * 14 + 2, none⟩ = some (.int .i64 y.s.num) ∧ V.cell? ⟨g2, off2 + k * 14 + 3, none⟩ = some y.hv ∧ V.cell? ⟨g2, off2 + k * 14 + 4, none⟩ = some y.tv ∧ V.cell? ⟨g2, off2 + k * 14 + 5, none⟩ = some (.int .i64 y.s.srv) ∧ V.cell? ⟨g2, off2 + k * 14 + 6, none⟩ = some (.int .i64 y.s.off) ∧ V.cell? ⟨g2, off2 + k * 14 + 7, none⟩ = some y.dv ∧ V.cell? ⟨g2, off2 + k * 14 + 8, none⟩ = some (.int .i64 y.s.chk) ∧ V.cell? ⟨g2, off2 + k * 14 + 9, none⟩ = some (.int .i64 y.s.rep) ∧ V.cell? ⟨g2, off2 + k * 14 + 10, none⟩ = some (.int .i64 y.s.upp) ∧ V.cell? ⟨g2, off2 + k * 14 + 11, none⟩ = some (.int .i64 y.s.low) ∧ V.cell? ⟨g2, off2 + k * 14 + 12, none⟩ = some y.cv ∧ V.cell? ⟨g2, off2 + k * 14 + 13, none⟩ = some (.int .i64 y.s.rsn)) := fun V hV => by
        have b := HB.out.trans (hV.mono HB.out.size)
        obtain ⟨p0, p1, p2, p3, p4, p5, p6, p7, p8, p9, p10, p11, p12, p13⟩ := sd_cells (sdx.below b) hx
        exact ⟨p0, p1, p2, p3, p4, p5, p6, p7, p8, p9, p10, p11, p12, p13, sd_cells (sdy.below b) hy⟩
      have HC0 := HC.out wr (Below.refl _ _)
      clear a1 a2 a3 a4 a5 sdx sdy exy
      go_wp2_with fail
      go_region_held3 (fun V => V.cell? ⟨g, off + k * 14, none⟩ = some (.int .i64 x.s.typ) ∧ V.cell? ⟨g, off + k * 14 + 1, none⟩ = some (.int .i64 x.s.org) ∧ V.cell? ⟨g, off + k * 14 + 2, none⟩ = some (.int .i64 x.s.num) ∧ V.cell? ⟨g, off + k * 14 + 3, none⟩ = some x.hv ∧ V.cell? ⟨g, off + k * 14 + 4, none⟩ = some x.tv ∧ V.cell? ⟨g, off + k * 14 + 5, none⟩ = some (.int .i64 x.s.srv) ∧ V.cell? ⟨g, off + k * 14 + 6, none⟩ = some (.int .i64 x.s.off) ∧ V.cell? ⟨g, off + k * 14 + 7, none⟩ = some x.dv ∧ V.cell? ⟨g, off + k * 14 + 8, none⟩ = some (.int .i64 x.s.chk) ∧ V.cell? ⟨g, off + k * 14 + 9, none⟩ = some (.int .i64 x.s.rep) ∧ V.cell? ⟨g, off + k * 14 + 10, none⟩ = some (.int .i64 x.s.upp) ∧ V.cell? ⟨g, off + k * 14 + 11, none⟩ = some (.int .i64 x.s.low) ∧ V.cell? ⟨g, off + k * 14 + 12, none⟩ = some x.cv ∧ V.cell? ⟨g, off + k * 14 + 13, none⟩ = some (.int .i64 x.s.rsn) ∧ V.cell? ⟨g2, off2 + k * 14, none⟩ = some (.int .i64 y.s.typ) ∧ V.cell? ⟨g2, off2 + k * 14 + 1, none⟩ = some (.int .i64 y.s.org) ∧ V.cell? ⟨g2, off2 + k * 14 + 2, none⟩ = some (.int .i64 y.s.num) ∧ V.cell? ⟨g2, off2 + k * 14 + 3, none⟩ = some y.hv ∧ V.cell? ⟨g2, off2 + k * 14 + 4, none⟩ = some y.tv ∧ V.cell? ⟨g2, off2 + k * 14 + 5, none⟩ = some (.int .i64 y.s.srv) ∧ V.cell? ⟨g2, off2 + k * 14 + 6, none⟩ = some (.int .i64 y.s.off) ∧ V.cell? ⟨g2, off2 + k * 14 + 7, none⟩ = some y.dv ∧ V.cell? ⟨g2, off2 + k * 14 + 8, none⟩ = some (.int .i64 y.s.chk) ∧ V.cell? ⟨g2, off2 + k * 14 + 9, none⟩ = some (.int .i64 y.s.rep) ∧ V.cell? ⟨g2, off2 + k * 14 + 10, none⟩ = some (.int .i64 y.s.upp) ∧ V.cell? ⟨g2, off2 + k * 14 + 11, none⟩ = some (.int .i64 y.s.low) ∧ V.cell? ⟨g2, off2 + k * 14 + 12, none⟩ = some y.cv ∧ V.cell? ⟨g2, off2 + k * 14 + 13, none⟩ = some (.int .i64 y.s.rsn))
        (first | exact HC0 | exact HCU.out)
        (first
          | (go_at_call 26
             refine hcall.mono ?_
             rintro e U ⟨rfl, hU⟩
             have hU' : Below wr.heap.size wr U := ⟨hU.os, hU.tape, hU.output, hU.size, hU.block⟩
             have HCU : Hid (U.cell? ⟨g, off + k * 14, none⟩ = some (.int .i64 x.s.typ) ∧ U.cell? ⟨g, off + k * 14 + 1, none⟩ = some (.int .i64 x.s.org) ∧ U.cell? ⟨g, off + k * 14 + 2, none⟩ = some (.int .i64 x.s.num) ∧ U.cell? ⟨g, off + k * 14 + 3, none⟩ = some x.hv ∧ U.cell? ⟨g, off + k * 14 + 4, none⟩ = some x.tv ∧ U.cell? ⟨g, off + k * 14 + 5, none⟩ = some (.int .i64 x.s.srv) ∧ U.cell? ⟨g, off + k * 14 + 6, none⟩ = some (.int .i64 x.s.off) ∧ U.cell? ⟨g, off + k * 14 + 7, none⟩ = some x.dv ∧ U.cell? ⟨g, off + k * 14 + 8, none⟩ = some (.int .i64 x.s.chk) ∧ U.cell? ⟨g, off + k * 14 + 9, none⟩ = some (.int .i64 x.s.rep) ∧ U.cell? ⟨g, off + k * 14 + 10, none⟩ = some (.int .i64 x.s.upp) ∧ U.cell? ⟨g, off + k * 14 + 11, none⟩ = some (.int .i64 x.s.low) ∧ U.cell? ⟨g, off + k * 14 + 12, none⟩ = some x.cv ∧ U.cell? ⟨g, off + k * 14 + 13, none⟩ = some (.int .i64 x.s.rsn) ∧ U.cell? ⟨g2, off2 + k * 14, none⟩ = some (.int .i64 y.s.typ) ∧ U.cell? ⟨g2, off2 + k * 14 + 1, none⟩ = some (.int .i64 y.s.org) ∧ U.cell? ⟨g2, off2 + k * 14 + 2, none⟩ = some (.int .i64 y.s.num) ∧ U.cell? ⟨g2, off2 + k * 14 + 3, none⟩ = some y.hv ∧ U.cell? ⟨g2, off2 + k * 14 + 4, none⟩ = some y.tv ∧ U.cell? ⟨g2, off2 + k * 14 + 5, none⟩ = some (.int .i64 y.s.srv) ∧ U.cell? ⟨g2, off2 + k * 14 + 6, none⟩ = some (.int .i64 y.s.off) ∧ U.cell? ⟨g2, off2 + k * 14 + 7, none⟩ = some y.dv ∧ U.cell? ⟨g2, off2 + k * 14 + 8, none⟩ = some (.int .i64 y.s.chk) ∧ U.cell? ⟨g2, off2 + k * 14 + 9, none⟩ = some (.int .i64 y.s.rep) ∧ U.cell? ⟨g2, off2 + k * 14 + 10, none⟩ = some (.int .i64 y.s.upp) ∧ U.cell? ⟨g2, off2 + k * 14 + 11, none⟩ = some (.int .i64 y.s.low) ∧ U.cell? ⟨g2, off2 + k * 14 + 12, none⟩ = some y.cv ∧ U.cell? ⟨g2, off2 + k * 14 + 13, none⟩ = some (.int .i64 y.s.rsn)) := HC.out U hU'
             have HBU : Hid (Below w.heap.size w U) := HB.out.trans (hU'.mono HB.out.size)
             clear hU hU'))
      all_goals (
        clear hcall HC0
        go_wp2
        go_roundw
        case rel => exact ⟨k + 1, by omega, by go_num, HBU⟩
        case measure => simp [intOf]; omega)
    · have hlt' : ¬ (k : Int) < (n : Int) := by omega
      go_wp2
      go_ret
      exact ⟨rfl, HB.out⟩

end Go.Proofs.YtdfdaambfihjaaaDoor.L

namespace Go.Proofs.YtdfdaambfihjaaaDoor.L
open Go.RowKit
set_option linter.unusedVariables false
set_option linter.unusedSimpArgs false

/-- What a session drops, by the law. -/
def gon (S1 S2 : Int) (dr all : Bool) (k : Nat) (s : Sg) : Bool := dr && (decide (s.org = S1) && decide (s.num = S2)) && (decide (s.typ ≤ 3) || (all && decide (0 < k)))
def kk (S1 S2 : Int) (dr all : Bool) (k : Nat) (y : Sv) : Bool := decide (kdn y.s.typ = k) && !gon S1 S2 dr all k y.s
def Ex (S1 S2 : Int) (dr all : Bool) (I : List Sv) (k : Nat) : List Sg := (I.filter (kk S1 S2 dr all k)).map Sv.s
def Ep (S1 S2 : Int) (dr all : Bool) (I : List Sv) : Nat → List Sg
  | 0 => []
  | k + 1 => Ep S1 S2 dr all I k ++ Ex S1 S2 dr all I k
def Aq (S1 S2 : Int) (dr all : Bool) (I : List Sv) (k i : Nat) : Nat := (Ep S1 S2 dr all I k).length + ((I.take i).filter (kk S1 S2 dr all k)).length
end Go.Proofs.YtdfdaambfihjaaaDoor.L

namespace Go.Proofs.YtdfdaambfihjaaaDoor.L
open Go.RowKit
set_option linter.unusedVariables false
set_option linter.unusedSimpArgs false

def wgo (S1 S2 : Int) (all : Bool) (x : Wa) : Bool := gon S1 S2 true all (kdn x.y.s.typ) x.y.s
def wkp (S1 S2 : Int) (all : Bool) (ws : List Wa) : List Wa := ws.filter fun x => !wgo S1 S2 all x
theorem wrow_new (w : World) (l : List Value) (t : TypeId) : ∀ j u, l[j]? = some u → (w.alloc (.cells l.toArray t)).cell? ((⟨w.heap.size, 0, none⟩ : Addr).add j) = some u := fun j u h => by
  rw [addr_add, Nat.zero_add, cell_of_row _ _ _ l.toArray t (0, 0) (heap_alloc_new' w _)]
  simpa using h

set_option maxRecDepth 100000 in
set_option maxHeartbeats 8000000 in
theorem rdrop_any (w : World) (r : Nat) (lim : Int) (v : Value) (ws : List Wa) (S1 S2 : Int) (all : Bool) (h : Rl w r lim v ws) (hsl : ∀ x ∈ ws, x.y.Sl) (n : Nat) (hn : ws.length = n) (hnb : n ≤ 68719476735) :
    Calls Tryd.prog 13 #[.pointer (some ⟨r, 0, none⟩), .agg #[.int .i64 S1, .int .i64 S2], .bool all] w fun e w' => e = .returned (.int .i64 ((n - (wkp S1 S2 all ws).length : Nat) : Int)) ∧ ∃ v', Rl w' r lim v' (wkp S1 S2 all ws) ∧ (∀ g, v'.ownBlock = some g → w.heap.size ≤ g) ∧ Kl (fun g => g = r) w w' := by
  obtain ⟨i0, hi, hz0, hz1, hz2⟩ := info_parts wts_info
  obtain ⟨W, hW⟩ : ∃ W, w.alloc (.cells #[.int .i64 S1, .int .i64 S2] 32) = W := ⟨_, rfl⟩
  have HW : Hid (w.alloc (.cells #[.int .i64 S1, .int .i64 S2] 32) = W) := hW
  have bW : Below w.heap.size w W := by rw [← hW]; exact (Below.refl _ _).alloc (Nat.le_refl _) _
  have hnw : W.heap[w.heap.size]? = some (.cells #[.int .i64 S1, .int .i64 S2] 32 (0, 0)) := by rw [← hW]; exact heap_alloc_new' _ _
  obtain ⟨B, hB⟩ : ∃ B, w.heap.size = B := ⟨_, rfl⟩
  have HS : Hid (∀ V : World, Below W.heap.size W V → V.cell? ⟨B, 0, none⟩ = some (.int .i64 S1) ∧ V.cell? ⟨B, 1, none⟩ = some (.int .i64 S2)) := fun V hV => by
    have e0 := (hV.block _ (Array.getElem?_eq_some_iff.1 hnw).1).trans hnw
    rw [hB] at e0
    exact ⟨(cell_of_row _ _ _ _ _ _ e0).trans rfl, (cell_of_row _ _ _ _ _ _ e0).trans rfl⟩
  obtain ⟨va, vc, hv⟩ := own_sl h.row
  rw [hn] at hv
  subst hv
  have HL : Hid (Rl w r lim (.slice va n vc) ws ∧ ws.length = n ∧ (∀ x ∈ ws, x.y.Sl)) := ⟨h, hn, hsl⟩
  have HbW : Hid (Below w.heap.size w W) := bW
  have HR : Hid (∀ V : World, Below W.heap.size W V → Rl V r lim (.slice va n vc) ws) := fun V hV => (h.below bW).below hV
  have HB : Hid (w.heap.size = B ∧ B < W.heap.size) := ⟨hB, by rw [← hB]; exact (Array.getElem?_eq_some_iff.1 hnw).1⟩
  have c1 : W.cell? ⟨r, 1, none⟩ = some (.slice va n vc) := (cell_of_row _ _ _ _ _ _ (h.below bW).box).trans rfl
  clear h hn hsl hW bW hnw
  go_enter Tryd.func13, Tryd.ntmps13
  go_upto_region 1 with fail
  rw [HW.out]
  go_wp2_with fail
  go_loopw [7, 8, 9, 10] (fun s7 s8 _ _ wr => ∃ (i : Nat) (lv : Value), i ≤ n ∧ s8 = .int .i64 i ∧ lv = s7 ∧ Hid (Below W.heap.size W wr ∧ wr.ownsRow W.heap.size 77 15 lv (wkp S1 S2 all (ws.take i)).length (wsg (wkp S1 S2 all (ws.take i))))) (fun _ s8 _ _ _ => n - (intOf s8).toNat)
  case atStart => exact ⟨0, _, by omega, rfl, rfl, Below.refl _ _, by simp only [List.take_zero]; exact World.ownsRow_nil _ _ _ _⟩
  case round =>
    obtain ⟨i, lv, hin, rfl, hlv, HO⟩ := hrel
    subst hlv
    have hRw := HR.out wr HO.out.1
    clear c1
    have c1 : wr.cell? ⟨r, 1, none⟩ = some (.slice va n vc) := (cell_of_row _ _ _ _ _ _ hRw.box).trans rfl
    by_cases hlt : i < n
    · have hlt' : (i : Int) < (n : Int) := by omega
      have h0i : 0 ≤ (i : Int) := by omega
      have hwi : IntKind.i64.wrap ((i : Int) + 1) = (i : Int) + 1 := by rw [IntKind.wrap_i64]; omega
      obtain ⟨x, hx⟩ := get_one ws i (by rw [HL.out.2.1]; exact hlt)
      obtain ⟨g, cc, e1, hcl⟩ := hRw.cell hx
      rw [HL.out.2.1] at e1
      simp only [Value.slice.injEq, true_and] at e1
      obtain ⟨rfl, rfl⟩ := e1
      have HX : Hid (ws[i]? = some x) := hx
      have hxl := HL.out.2.2 x (List.mem_of_getElem? hx)
      obtain ⟨xp, xs, hvx, tvx, dvx, cvx⟩ := x
      obtain ⟨⟨a1, n1, k1, rfl⟩, ⟨a2, n2, k2, rfl⟩, ⟨a3, n3, k3, rfl⟩, a4, n4, k4, rfl⟩ := hxl
      have x0 := hcl 0 _ rfl
      rw [Nat.add_zero] at x0
      have x1 := hcl 1 _ rfl
      have x2 := hcl 2 _ rfl
      have x3 := hcl 3 _ rfl
      have x4 := hcl 4 _ rfl
      have x5 := hcl 5 _ rfl
      have x6 := hcl 6 _ rfl
      have x7 := hcl 7 _ rfl
      have x8 := hcl 8 _ rfl
      have x9 := hcl 9 _ rfl
      have x10 := hcl 10 _ rfl
      have x11 := hcl 11 _ rfl
      have x12 := hcl 12 _ rfl
      have x13 := hcl 13 _ rfl
      have x14 := hcl 14 _ rfl
      clear hcl hx hRw
      go_upto_region 6 with fail
      obtain ⟨W5, hW5⟩ : ∃ V, wr.alloc (.cells #[.int .i64 xs.typ, .int .i64 xs.org, .int .i64 xs.num, .slice a1 n1 k1, .slice a2 n2 k2, .int .i64 xs.srv, .int .i64 xs.off, .slice a3 n3 k3, .int .i64 xs.chk, .int .i64 xs.rep, .int .i64 xs.upp, .int .i64 xs.low, .slice a4 n4 k4, .int .i64 xs.rsn] 37) = V := ⟨_, rfl⟩
      rw [hW5]
      have b5 : Below wr.heap.size wr W5 := by rw [← hW5]; exact (Below.refl _ _).alloc (Nat.le_refl _) _
      have hn5 : W5.heap[wr.heap.size]? = some (.cells #[.int .i64 xs.typ, .int .i64 xs.org, .int .i64 xs.num, .slice a1 n1 k1, .slice a2 n2 k2, .int .i64 xs.srv, .int .i64 xs.off, .slice a3 n3 k3, .int .i64 xs.chk, .int .i64 xs.rep, .int .i64 xs.upp, .int .i64 xs.low, .slice a4 n4 k4, .int .i64 xs.rsn] 37 (0, 0)) := by rw [← hW5]; exact heap_alloc_new' _ _
      obtain ⟨y0, y1, y2, _⟩ := s14_cells hn5
      have H5 : Hid (Below W.heap.size W W5 ∧ W5.ownsRow W.heap.size 77 15 lv (wkp S1 S2 all (ws.take i)).length (wsg (wkp S1 S2 all (ws.take i)))) := ⟨HO.out.1.trans (b5.mono HO.out.1.size), own_blk HO.out.2 (fun g hg => b5.block g (HO.out.2.lt g hg).2)⟩
      obtain ⟨z0', z1'⟩ := HS.out W5 H5.out.1
      have HC5 : Hid (W5.cell? ⟨r, 1, none⟩ = some (.slice (some ⟨g, 0, none⟩) n vc) ∧ ∀ j u, (⟨xp, ⟨xs, .slice a1 n1 k1, .slice a2 n2 k2, .slice a3 n3 k3, .slice a4 n4 k4⟩⟩ : Wa).L[j]? = some u → W5.cell? ⟨g, i * 15 + j, none⟩ = some u) := by
        have hR5 := HR.out W5 H5.out.1
        obtain ⟨g', cc', e1, hcl⟩ := hR5.cell HX.out
        simp only [Value.slice.injEq, Option.some.injEq, Addr.mk.injEq] at e1
        obtain ⟨⟨rfl, _⟩, _⟩ := e1
        exact ⟨(cell_of_row _ _ _ _ _ _ hR5.box).trans rfl, hcl⟩
      clear hW5 b5 hn5 x0 x1 x2 x3 x4 x5 x6 x7 x8 x9 x10 x11 x12 x13 x14 c1
      have hrk := rank11_any xs.typ W5
      rw [(kd_n xs.typ).1] at hrk
      obtain ⟨kn, hkn⟩ : ∃ kn, kdn xs.typ = kn := ⟨_, rfl⟩
      rw [hkn] at hrk
      obtain ⟨cb, hcb⟩ : ∃ cb, wgo S1 S2 all (⟨xp, ⟨xs, .slice a1 n1 k1, .slice a2 n2 k2, .slice a3 n3 k3, .slice a4 n4 k4⟩⟩ : Wa) = cb := ⟨_, rfl⟩
      have HCb : Hid (wgo S1 S2 all (⟨xp, ⟨xs, .slice a1 n1 k1, .slice a2 n2 k2, .slice a3 n3 k3, .slice a4 n4 k4⟩⟩ : Wa) = cb) := hcb
      have hkk : cb = gon S1 S2 true all kn xs := by rw [← hcb, ← hkn]; rfl
      unfold gon at hkk
      clear hkn
      go_wp2_with fail
      refine hrk.mono ?_
      rintro e W5' ⟨rfl, rfl⟩
      clear hrk
      go_upto_region 7 with fail
      go_cut [47] from 32 to 57 (fun c wx => c = .bool cb ∧ W5 = wx)
      case first =>
        by_cases e1 : xs.org = S1
        · by_cases e2 : xs.num = S2
          · subst e1 e2
            by_cases e3 : xs.typ ≤ 3
            · have e9 : cb = true := by simpa [e3] using hkk
              subst e9
              clear hkk hcb
              go_wp2_with fail
              go_meet
              exact ⟨rfl, rfl⟩
            · have e3' : 3 < xs.typ := by omega
              cases all with
              | false =>
                have e9 : cb = false := by simpa [e3] using hkk
                subst e9
                clear hkk hcb
                go_wp2_with fail
                go_meet
                exact ⟨rfl, rfl⟩
              | true =>
                by_cases e4 : 0 < kn
                · have e4' : (0 : Int) < (kn : Int) := by omega
                  have e9 : cb = true := by simpa [e3, e4] using hkk
                  subst e9
                  clear hkk hcb
                  go_wp2_with fail
                  go_meet
                  exact ⟨rfl, rfl⟩
                · obtain rfl : kn = 0 := by omega
                  have e9 : cb = false := by simpa [e3] using hkk
                  subst e9
                  clear hkk hcb
                  go_wp2_with fail
                  go_meet
                  exact ⟨rfl, rfl⟩
          · have e2' : (xs.num == S2) = false := by simpa using e2
            have e9 : cb = false := by simpa [e2] using hkk
            subst e9
            clear hkk hcb
            go_wp2_with fail
            go_meet
            exact ⟨rfl, rfl⟩
        · have e1' : (xs.org == S1) = false := by simpa using e1
          have e9 : cb = false := by simpa [e1] using hkk
          subst e9
          clear hkk hcb
          go_wp2_with fail
          go_meet
          exact ⟨rfl, rfl⟩
      case rest =>
      obtain ⟨rfl, hwc⟩ := hcut
      subst hwc
      clear hkk hcb y0 y1 y2 z0' z1'
      have hst : wkp S1 S2 all (ws.take (i + 1)) = wkp S1 S2 all (ws.take i) ++ (if cb = true then [] else [(⟨xp, ⟨xs, .slice a1 n1 k1, .slice a2 n2 k2, .slice a3 n3 k3, .slice a4 n4 k4⟩⟩ : Wa)]) := by
        rw [List.take_add_one, HX.out]
        unfold wkp
        rw [List.filter_append]
        have := HCb.out
        cases cb <;> simp [this]
      have HSt : Hid (wkp S1 S2 all (ws.take (i + 1)) = wkp S1 S2 all (ws.take i) ++ (if cb = true then [] else [(⟨xp, ⟨xs, .slice a1 n1 k1, .slice a2 n2 k2, .slice a3 n3 k3, .slice a4 n4 k4⟩⟩ : Wa)])) := hst
      clear hst
      cases cb with
      | true =>
        have HE : Hid (Below W.heap.size W W5 ∧ W5.ownsRow W.heap.size 77 15 lv (wkp S1 S2 all (ws.take (i + 1))).length (wsg (wkp S1 S2 all (ws.take (i + 1))))) := by
          have e := HSt.out
          simp only [if_true, List.append_nil] at e
          rw [e]
          exact H5.out
        go_wp2
        go_roundw
        case rel => exact ⟨i + 1, _, by omega, by go_num, rfl, HE⟩
        case measure => simp [intOf]; omega
      | false =>
        have c1 := HC5.out.1
        have hcl := HC5.out.2
        have x0 := hcl 0 _ rfl
        rw [Nat.add_zero] at x0
        have x1 := hcl 1 _ rfl
        have x2 := hcl 2 _ rfl
        have x3 := hcl 3 _ rfl
        have x4 := hcl 4 _ rfl
        have x5 := hcl 5 _ rfl
        have x6 := hcl 6 _ rfl
        have x7 := hcl 7 _ rfl
        have x8 := hcl 8 _ rfl
        have x9 := hcl 9 _ rfl
        have x10 := hcl 10 _ rfl
        have x11 := hcl 11 _ rfl
        have x12 := hcl 12 _ rfl
        have x13 := hcl 13 _ rfl
        have x14 := hcl 14 _ rfl
        clear hcl
        obtain ⟨N, hN⟩ : ∃ N, (wkp S1 S2 all (ws.take i)).length = N := ⟨_, rfl⟩
        have hNb : N ≤ 68719476735 := by
          rw [← hN]
          unfold wkp
          have h1 := List.length_filter_le (fun x => !wgo S1 S2 all x) (ws.take i)
          have h2 : (ws.take i).length ≤ i := by rw [List.length_take]; omega
          omega
        have HN : Hid ((wkp S1 S2 all (ws.take i)).length = N) := hN
        have hro := H5.out.2
        rw [hN] at hro
        obtain ⟨la, lc, hle⟩ := own_sl hro
        subst hle
        have HRo : Hid (W5.ownsRow W.heap.size 77 15 (.slice la N lc) N (wsg (wkp S1 S2 all (ws.take i)))) := hro
        have HOne : Hid (∀ u ∈ (⟨xp, ⟨xs, .slice a1 n1 k1, .slice a2 n2 k2, .slice a3 n3 k3, .slice a4 n4 k4⟩⟩ : Wa).L, u.oneCell' = true) := Wa.one (x := (⟨xp, ⟨xs, .slice a1 n1 k1, .slice a2 n2 k2, .slice a3 n3 k3, .slice a4 n4 k4⟩⟩ : Wa)) ⟨⟨_, _, _, rfl⟩, ⟨_, _, _, rfl⟩, ⟨_, _, _, rfl⟩, _, _, _, rfl⟩
        have hWs : W.heap.size ≤ W5.heap.size := H5.out.1.size
        clear hro hN
        go_wp2_with (at_builtin; refine wpList_append_own_at _ rfl _ _ 64 rfl W.heap.size 77 i0 _ 15 184 Tryd.underlying64 hi hz0 hz1 hz2 rfl (by decide) (.slice la N lc) N (wsg (wkp S1 S2 all (ws.take i))) (by first | rfl | simp [Act.eval]) (World.ownsRow.alloc HRo.out _) ⟨W5.heap.size, 0, none⟩ 1 1 (⟨xp, ⟨xs, .slice a1 n1 k1, .slice a2 n2 k2, .slice a3 n3 k3, .slice a4 n4 k4⟩⟩ : Wa).L (by first | rfl | simp [Act.eval]) rfl (wrow_new W5 (⟨xp, ⟨xs, .slice a1 n1 k1, .slice a2 n2 k2, .slice a3 n3 k3, .slice a4 n4 k4⟩⟩ : Wa).L 77) HOne.out (by unfold maxLen; omega) (by omega) (by simp; omega) ?_)
        intro v' w6 hown6 hgrow6 hx6 hat6
        have HE : Hid (Below W.heap.size W w6 ∧ w6.ownsRow W.heap.size 77 15 v' (wkp S1 S2 all (ws.take (i + 1))).length (wsg (wkp S1 S2 all (ws.take (i + 1))))) := by
          have e := HSt.out
          simp only [Bool.false_eq_true, if_false] at e
          have hg := grown_al hgrow6
          refine ⟨⟨hg.os.trans H5.out.1.os, hg.tape.trans H5.out.1.tape, hg.output.trans H5.out.1.output, Nat.le_trans hWs hg.size, fun k hk => (grown_blk hg (by omega) (fun e2 => by have := (HRo.out.lt k e2).1; omega)).trans (H5.out.1.block k hk)⟩, ?_⟩
          rw [e, List.length_append, wsg_app, HN.out, show wsg [(⟨xp, ⟨xs, .slice a1 n1 k1, .slice a2 n2 k2, .slice a3 n3 k3, .slice a4 n4 k4⟩⟩ : Wa)] = (⟨xp, ⟨xs, .slice a1 n1 k1, .slice a2 n2 k2, .slice a3 n3 k3, .slice a4 n4 k4⟩⟩ : Wa).L by simp [wsg]]
          exact hown6
        clear hown6 hgrow6 hx6 hat6 x0 x1 x2 x3 x4 x5 x6 x7 x8 x9 x10 x11 x12 x13 x14
        go_wp2
        go_roundw
        case rel => exact ⟨i + 1, _, by omega, by go_num, rfl, HE⟩
        case measure => simp [intOf]; omega
    · have hlt' : ¬ (i : Int) < (n : Int) := by omega
      obtain rfl : i = n := by omega
      obtain ⟨la, lc, hle⟩ := own_sl HO.out.2
      subst hle
      have ew : ws.take i = ws := List.take_of_length_le (by rw [HL.out.2.1]; exact Nat.le_refl _)
      obtain ⟨q, hq⟩ : ∃ q, (wkp S1 S2 all (ws.take i)).length = q := ⟨_, rfl⟩
      have hqn : q ≤ i := by rw [← hq, ew]; have := HL.out.2.1; unfold wkp; have := List.length_filter_le (fun x => !wgo S1 S2 all x) ws; omega
      obtain ⟨d, hd⟩ : ∃ d, i - q = d := ⟨_, rfl⟩
      have hid : (i : Int) - (q : Int) = (d : Int) := by omega
      have hdb : d ≤ 68719476735 := by omega
      have f1 : wr.frozen? ⟨r, 1, none⟩ = false := frozen_of_row _ _ _ _ _ hRw.box
      have HF : Hid (Rl (wr.setCell ⟨r, 1, none⟩ (.slice la q lc)) r lim (.slice la q lc) (wkp S1 S2 all ws) ∧ (∀ g, (Value.slice la q lc).ownBlock = some g → w.heap.size ≤ g) ∧ Kl (fun g => g = r) w (wr.setCell ⟨r, 1, none⟩ (.slice la q lc)) ∧ (wkp S1 S2 all ws).length = q) := by
        have ho := HO.out.2
        rw [ew] at hq ho
        rw [hq] at ho
        have hbx := HbW.out.size
        have hb2 := heap_setCell_same wr r 1 _ _ (.slice la q lc) hRw.box
        refine ⟨⟨by rw [hb2]; simp, by rw [hq]; exact own_base (own_blk ho (fun g hg => heap_setCell_other _ _ _ _ (fun e => own_hp ho hRw.box (by decide) (by rw [hg, e])))) (Nat.zero_le _)⟩, fun g hg => Nat.le_trans hbx (ho.lt g hg).1, ?_, hq⟩
        exact (Kl.of_below (HbW.out.trans (HO.out.1.mono hbx))).grown (grown_set _ _ _ _) (fun k hk => .inl (by simpa using hk.symm))
      have HD : Hid (i - q = d) := hd
      rw [hq]
      clear hq ew hd hRw
      go_wp2
      go_ret
      exact ⟨by rw [HF.out.2.2.2, HD.out]; rfl, _, HF.out.1, fun g hg => by have := HF.out.2.1 g hg; have := HB.out.1; omega, HF.out.2.2.1⟩

end Go.Proofs.YtdfdaambfihjaaaDoor.L

namespace Go.Proofs.YtdfdaambfihjaaaDoor.L
open Go.RowKit
set_option linter.unusedVariables false
set_option linter.unusedSimpArgs false

/-! ## What stays as it is -/
def Sta (N : Nat → Prop) (w : World) (y : Sv) : Prop := ∀ w', Kl N w w' → SAt w' y
theorem Sta.step {N N' N2 : Nat → Prop} {w w' : World} {y : Sv} (h : Sta N w y) (hk : Kl N' w w') (h1 : ∀ g, g < w.heap.size → N' g → N g) (h2 : ∀ g, g < w.heap.size → N2 g → N g) : Sta N2 w' y := fun w2 k2 => h w2 ((hk.mono h1).then k2 h2)
theorem PtP.sta {w w' : World} {p m : Nat} {lim K : Int} {o o' : Lo} {M : Nat} {s : Sg} {y : Sv} {lo hi : Nat} (h : PtP w w' p m lim K o o' M s y lo hi) {N : Nat → Prop} (hN : ∀ g, N g → ¬ (lo ≤ g ∧ g < hi)) : Sta N w' y := fun w2 hk => h.st w2 (fun g h0 h1 => hk.block g (Nat.lt_of_lt_of_le h1 h.h0) (fun e => hN g e ⟨h0, h1⟩))
abbrev nl : Value := .slice none 0 0
theorem sin_nil (s : Sg) (w : World) (h1 : s.head = []) (h2 : s.tail = []) (h3 : s.data = []) (h4 : s.clm = []) : SIn w s nl nl nl nl [] [] :=
  ⟨⟨⟨none, 0, rfl, .inl rfl⟩, fun _ h => (by cases h), by simp⟩, by rw [h1]; rfl, ⟨⟨none, 0, rfl, .inl rfl⟩, fun _ h => (by cases h), by simp⟩, by rw [h2]; rfl,
    by rw [h3]; exact ⟨⟨none, 0, rfl, .inl rfl, fun _ => ⟨rfl, rfl⟩, Nat.le_refl _, by omega⟩, fun _ h => (by cases h), by simp⟩, by rw [h4]; exact ⟨⟨none, 0, rfl, .inl rfl⟩, by simp⟩⟩
def sA : Sg := { typ := 9, org := 1, num := 5, head := [], tail := [], srv := 0, off := 0, data := [], chk := 0, rep := 1, low := 0, upp := 0, clm := [], rsn := 0 }
def sC : Sg := { typ := 12, org := 1, num := 5, head := [], tail := [], srv := 0, off := 0, data := [], chk := 0, rep := 0, low := 0, upp := 0, clm := [], rsn := 2 }
theorem prtA : (prt sA [] []).1 = 0 := by decide +kernel
theorem prtC : (prt sC [] []).1 = 0 := by decide +kernel
set_option maxRecDepth 100000 in
set_option maxHeartbeats 2000000 in
theorem ack_any (w : World) : Calls Tryd.prog 25 #[] w fun e w' => e = .returned (.agg (svC sA nl nl nl nl)) ∧ Below w.heap.size w w' := by
  obtain ⟨W, hW⟩ : ∃ W, w.alloc (.cells (svC sA nl nl nl nl) 37) = W := ⟨_, rfl⟩
  have HB : Hid (Below w.heap.size w W) := by rw [← hW]; exact (Below.refl _ _).alloc (Nat.le_refl _) _
  have hnw : W.heap[w.heap.size]? = some (.cells (svC sA nl nl nl nl) 37 (0, 0)) := by rw [← hW]; exact heap_alloc_new' _ _
  obtain ⟨u0, u1, u2, u3, u4, u5, u6, u7, u8, u9, u10, u11, u12, u13⟩ := s14_cells hnw
  have HW : Hid (w.alloc (.cells (svC sA nl nl nl nl) 37) = W) := hW
  clear hnw hW
  go_enter Tryd.func25, Tryd.ntmps25
  go_wp2
  have hv2 := HW.out
  simp only [sA, nl] at hv2 u0 u1 u2 u3 u4 u5 u6 u7 u8 u9 u10 u11 u12 u13
  rw [hv2]
  refine bodyPost_ret (v := .agg (svC sA nl nl nl nl)) (by simp [results, Tryd.results25, go_sem, u0, u1, u2, u3, u4, u5, u6, u7, u8, u9, u10, u11, u12, u13, sA, nl]) rfl ?_
  exact ⟨rfl, HB.out⟩
set_option maxRecDepth 100000 in
set_option maxHeartbeats 2000000 in
theorem cancel_any (w : World) : Calls Tryd.prog 24 #[] w fun e w' => e = .returned (.agg (svC sC nl nl nl nl)) ∧ Below w.heap.size w w' := by
  obtain ⟨W, hW⟩ : ∃ W, w.alloc (.cells (svC sC nl nl nl nl) 37) = W := ⟨_, rfl⟩
  have HB : Hid (Below w.heap.size w W) := by rw [← hW]; exact (Below.refl _ _).alloc (Nat.le_refl _) _
  have hnw : W.heap[w.heap.size]? = some (.cells (svC sC nl nl nl nl) 37 (0, 0)) := by rw [← hW]; exact heap_alloc_new' _ _
  obtain ⟨u0, u1, u2, u3, u4, u5, u6, u7, u8, u9, u10, u11, u12, u13⟩ := s14_cells hnw
  have HW : Hid (w.alloc (.cells (svC sC nl nl nl nl) 37) = W) := hW
  clear hnw hW
  go_enter Tryd.func24, Tryd.ntmps24
  go_wp2
  have hv2 := HW.out
  simp only [sC, nl] at hv2 u0 u1 u2 u3 u4 u5 u6 u7 u8 u9 u10 u11 u12 u13
  rw [hv2]
  refine bodyPost_ret (v := .agg (svC sC nl nl nl nl)) (by simp [results, Tryd.results24, go_sem, u0, u1, u2, u3, u4, u5, u6, u7, u8, u9, u10, u11, u12, u13, sC, nl]) rfl ?_
  exact ⟨rfl, HB.out⟩

end Go.Proofs.YtdfdaambfihjaaaDoor.L
