import Derived.Test.YtkkmoplijicmpaeDoorBkWlk
import Derived.Test.YtkkmoplijicmpaeDoorItK
namespace Go.Proofs.YtkkmoplijicmpaeDoor.C
open Go.RowKit Go.Shelf
set_option linter.unusedVariables false
attribute [local go_sem] Oper.semAt_some

/-! ## What Missing answers -/
def inB (f t : Int) : Prop := (0 ≤ f ∧ f ≤ 65536) ∧ (0 ≤ t ∧ t ≤ 65536)
def MR (l : List Sp) (f t : Int) (u : List Sp) (er : Int) : Prop := (¬ IsSet l ∧ er = 30 ∧ u = []) ∨ (IsSet l ∧ ¬ inB f t ∧ er = 50 ∧ u = []) ∨ (IsSet l ∧ inB f t ∧ er = 0 ∧ u = (pick false (pc t f l)).take 2000)
theorem MR.len {l : List Sp} {f t : Int} {u : List Sp} {er : Int} (h : MR l f t u er) : u.length ≤ 2000 := by
  rcases h with ⟨_, _, rfl⟩ | ⟨_, _, _, rfl⟩ | ⟨_, _, _, rfl⟩
  · simp
  · simp
  · rw [List.length_take]; exact Nat.min_le_left _ _
theorem pc_none {hi : Int} : ∀ {l : List Sp} {p : Int}, hi ≤ p → pc hi p l = []
  | [], p, h => by simp only [pc]; rw [if_neg (by omega)]
  | x :: r, p, h => by simp only [pc]; rw [if_pos (by omega)]; exact pc_none h
def MsPost (l : List Sp) (f t : Int) (w : World) (e : Ending) (w' : World) : Prop := ∃ v u er, e = .returned (.tuple #[v, .int .i64 er]) ∧ SOwn w' w.heap.size v u ∧ MR l f t u er ∧ Below w.heap.size w w'

theorem between5_any (n lo hi : Int) (w : World) : Calls Tryd.prog 75 #[.int .i64 n, .int .i64 lo, .int .i64 hi] w fun e w' => e = .returned (.bool (decide (lo ≤ n ∧ n ≤ hi))) ∧ w = w' := by
  by_cases h1 : lo ≤ n
  · by_cases h2 : n ≤ hi
    · have HD : Hid (decide (lo ≤ n ∧ n ≤ hi) = true) := decide_eq_true ⟨h1, h2⟩
      rw [HD.out]
      go_enter Tryd.func75, Tryd.ntmps75
      go_wp2
      go_ret
      exact ⟨rfl, rfl⟩
    · have HD : Hid (decide (lo ≤ n ∧ n ≤ hi) = false) := decide_eq_false fun h => h2 h.2
      rw [HD.out]
      go_enter Tryd.func75, Tryd.ntmps75
      go_wp2
      go_ret
      exact ⟨rfl, rfl⟩
  · have HD : Hid (decide (lo ≤ n ∧ n ≤ hi) = false) := decide_eq_false fun h => h1 h.1
    rw [HD.out]
    go_enter Tryd.func75, Tryd.ntmps75
    go_wp2
    go_ret
    exact ⟨rfl, rfl⟩

/-! ## The loop of Missing -/
structure MI (S Bs N : Nat) (K : Nat → Prop) (w : World) (s1 s2 : Int) (pre : List Pz) (W : World) : Prop where
  row : ∃ v, Boxed W S 26 v ∧ SOwn W N v ((pick false pre).take 2000)
  sb : W.heap[Bs]? = some (.cells #[.int .i64 s1, .int .i64 s2] 36 (0, 0))
  low : Below w.heap.size w W
  big : N ≤ W.heap.size
theorem MI.own {S Bs N B : Nat} {K : Nat → Prop} {w : World} {s1 s2 : Int} (hB : w.heap.size ≤ B) : OwnFrom B (MI S Bs N K w s1 s2) := fun pre X Y row hs hg hr => by
  obtain ⟨v, h1, h2⟩ := hs.row
  exact ⟨⟨v, cells_keep h1 hg hr, h2.keepO hg hr⟩, cells_keep hs.sb hg hr, ownFrom_below (β := Unit) (Nat.le_refl _) hB () X Y row hs.low hg hr, Nat.le_trans hs.big hg.size⟩
theorem MI.alloc {S Bs N : Nat} {K : Nat → Prop} {w : World} {s1 s2 : Int} {pre : List Pz} {W : World} (h : MI S Bs N K w s1 s2 pre W) (o : Obj) : MI S Bs N K w s1 s2 pre (W.alloc o) := by
  obtain ⟨v, h1, h2⟩ := h.row
  exact ⟨⟨v, h1.alloc o, World.ownsRow.alloc h2 o⟩, (Below.heap_alloc W o _ (Array.getElem?_eq_some_iff.1 h.sb).1).trans h.sb, h.low.alloc h.low.size o, by have := h.big; simp; omega⟩
theorem kpK_b {b N : Nat} {K : Nat → Prop} (hK : ∀ k, K k → k < N) (hb : b < N) (W : World) (l : Nat) (o o' : Obj) (hl : N ≤ l) (h : W.heap[l]? = some o) (h1 : o.isCells = false) (h2 : o.isWalk = false) : KpK K b W (W.putObj l o') :=
  ⟨⟨by simp [World.putObj], fun k hk _ => World.putObj_heap_other (by have := hK k hk; omega)⟩, World.putObj_heap_other (by omega)⟩
theorem take_hit {pre : List Pz} {s : Sp} (h : (pick false pre).length < 2000) : (pick false (pre ++ [(s, false)])).take 2000 = (pick false pre).take 2000 ++ [s] := by
  rw [pick_hit, List.take_of_length_le (by simp; omega), List.take_of_length_le (by omega)]
theorem take_full {pre : List Pz} {s : Sp} (h : ¬ (pick false pre).length < 2000) : (pick false (pre ++ [(s, false)])).take 2000 = (pick false pre).take 2000 := by
  rw [pick_hit, List.take_append_of_le_length (by omega)]
/-- A span is put to the row. -/
theorem MI.put {S Bs N : Nat} {K : Nat → Prop} {w W w1 : World} {s1 s2 : Int} {pre : List Pz} {v v' : Value} {s : Sp} {tmp : Obj} (h : MI S Bs N K w s1 s2 pre W) (hS : S < N) (hSb : Bs < N) (hSS : Bs ≠ S) (hw : w.heap.size ≤ S) (hK : ∀ k, K k → k < N ∧ k ≠ S) (hl : (pick false pre).length < 2000) (hv : Boxed W S 26 v) (hrow : SOwn W N v ((pick false pre).take 2000))
    (hown : w1.ownsRow N 36 2 v' (((pick false pre).take 2000).length + 1) (((pick false pre).take 2000).flatMap spc ++ [.int .i64 s.1, .int .i64 s.2])) (hg : (W.alloc tmp).grownBy w1 v.ownBlock) :
    Boxed w1 S 26 v ∧ KeepsOthers W (w1.setCell ⟨S, 0, none⟩ v') ∧ KpK K Bs W (w1.setCell ⟨S, 0, none⟩ v') ∧ MI S Bs N K w s1 s2 (pre ++ [(s, false)]) (w1.setCell ⟨S, 0, none⟩ v') := by
  have hbN : Below N W w1 := ((Below.refl N W).alloc h.big tmp).grown hg (by have := h.big; simp; omega) (fun k hk => (hrow.lt k hk).1)
  have b1 : Boxed w1 S 26 v := (hbN.block S hS).trans hv
  have b3 : w1.heap[Bs]? = some (.cells #[.int .i64 s1, .int .i64 s2] 36 (0, 0)) := (hbN.block Bs hSb).trans h.sb
  have b3' : (w1.setCell ⟨S, 0, none⟩ v').heap[Bs]? = some (.cells #[.int .i64 s1, .int .i64 s2] 36 (0, 0)) := (Below.heap_setCell _ _ _ _ hSS).trans b3
  have hlow : Below w.heap.size W (w1.setCell ⟨S, 0, none⟩ v') := (hbN.mono (by omega)).setCell (p := ⟨S, 0, none⟩) hw v'
  have hnb : ∀ k, v'.ownBlock = some k → N ≤ k := fun k hk => (World.ownsRow.lt hown k hk).1
  refine ⟨b1, ?_, ⟨⟨hlow.size, fun k hk hkl => (Below.heap_setCell _ _ _ _ (hK k hk).2).trans (hbN.block k (hK k hk).1)⟩, b3'.trans h.sb.symm⟩, ⟨⟨v', b1.set v', ?_⟩, b3', h.low.trans hlow, Nat.le_trans h.big (Nat.le_trans hbN.size (by simp))⟩⟩
  · refine ((KeepsOthers.alloc W tmp).trans (KeepsOthers.of_grownBy hg fun j o ej hj => ?_)).trans (KeepsOthers.setCell _ _ _)
    rcases (World.ownsRow.alloc hrow tmp).2 with ⟨rfl, _⟩ | ⟨g, cap, cur, rfl, _, hgb, _⟩
    · simp [Value.ownBlock] at ej
    · obtain rfl : g = j := by simpa [Value.ownBlock] using ej
      rw [hgb] at hj; cases hj; rfl
  · unfold SOwn
    rw [take_hit hl, List.flatMap_append, List.length_append]
    exact hown.kept (grownBy_setCell' w1 S v') (by
      cases hv : v'.ownBlock with
      | none => left; rfl
      | some g => right; intro e; simp only [Option.some.injEq] at e; have := hnb g hv; omega)

set_option maxRecDepth 100000 in
set_option maxHeartbeats 4000000 in
theorem missing_in {a : Option Addr} {c : Nat} {l : List Sp} {w : World} (f t : Int) (h : Ls w (.slice a l.length c) l) (hq : IsSet l) (hf : inB f t) (n : Nat) (hn : 9 ≤ n) :
    CallsIn Fence.wide n Tryd.prog 32 #[.slice a l.length c, .int .i64 f, .int .i64 t] w (MsPost l f t w) := by
  have h1 : 1 ≤ n := by omega
  obtain ⟨i0, hi, hz0, hz1, hz2⟩ := info_parts Tryd.info_span
  have HL : Hid (Ls w (.slice a l.length c) l) := h
  have HQ : Hid (setB l = true) := setB_iff.mpr hq
  have HMr : Hid (∀ L, wks l f t L → MR l f t ((pick false L).take 2000) 0) := fun L hL => by
    refine .inr (.inr ⟨hq, hf, rfl, ?_⟩)
    by_cases e : f ≤ t
    · rw [hL.1 ⟨hq, ⟨hf.1.1, e, by have := hf.2.2; simp only; omega⟩⟩]
    · rw [hL.2 (fun h8 => e h8.2.2.1), pc_none (by omega)]
  have hR := right_ls h
  rw [HQ.out] at hR
  have hB1 := fun W => between5_any f 0 65536 W
  have hB2 := fun W => between5_any t 0 65536 W
  simp only [decide_eq_true hf.1] at hB1
  simp only [decide_eq_true hf.2] at hB2
  clear h hq hf
  refine callsIn_of_wp_marks Tryd.func32 rfl trivial ?_ rfl
  simp only [Tryd.ntmps32, List.size_toArray, List.length_cons, List.length_nil, Nat.reduceAdd, Nat.reduceSub, Array.replicate_succ, Array.replicate_zero, List.push_toArray, List.append_toArray, List.nil_append, List.cons_append]
  gi_wp2_with fail
  refine ⟨trivial, (callsIn_wide.2 hR).mono ?_⟩
  rintro e w1 ⟨rfl, hb1⟩
  have HB1 : Hid (Below w.heap.size w w1) := hb1
  clear hR hb1
  gi_wp2_with fail
  refine ⟨trivial, (callsIn_wide.2 (hB1 w1)).mono ?_⟩
  rintro e w2 ⟨rfl, hw2⟩
  subst hw2
  gi_wp2_with fail
  refine ⟨trivial, (callsIn_wide.2 (hB2 w1)).mono ?_⟩
  rintro e w2 ⟨rfl, hw2⟩
  subst hw2
  clear hB1 hB2
  obtain ⟨V, hV⟩ : ∃ V, w1.alloc (.cells #[.slice none 0 0] 26) = V := ⟨_, rfl⟩
  have HBV : Hid (Below w.heap.size w V ∧ V.heap.size = w1.heap.size + 1 ∧ Boxed V w1.heap.size 26 (.slice none 0 0) ∧ w.heap.size ≤ w1.heap.size) := by
    refine ⟨by rw [← hV]; exact HB1.out.alloc HB1.out.size _, by rw [← hV]; simp, by rw [← hV]; exact Boxed.new w1 _ _, HB1.out.size⟩
  have hW := walk_all f t (HL.out.below HBV.out.1)
  gi_wp2_with fail
  refine ⟨trivial, (callsIn_wide.2 hW).mono ?_⟩
  rintro e W0 ⟨Bs, Bl, a2, c2, xs, s1, s2, rfl, hBs, hBl, hSo, hge1, hge2, hne, hb0, hxl, hwk⟩
  have hS0 : Boxed W0 w1.heap.size 26 (.slice none 0 0) := (hb0.block w1.heap.size (by have := HBV.out.2.1; omega)).trans HBV.out.2.2.1
  have HB0 : Hid (Below w.heap.size w W0) := HBV.out.1.trans (hb0.mono HBV.out.1.size)
  have hBl' : W0.cell? ⟨Bl, 0, none⟩ = some (.slice a2 xs.length c2) := by rw [cell_of_row _ _ _ _ _ _ hBl]; rfl
  have hV1 := HBV.out.2.1
  have hw1 := HBV.out.2.2.2
  have hSl : w1.heap.size < W0.heap.size := by have := hb0.size; omega
  have hBsl : Bs < W0.heap.size := (Array.getElem?_eq_some_iff.1 hBs).1
  have HK : Hid (∀ k, (Value.slice a2 xs.length c2).ownBlock = some k → k < W0.heap.size ∧ k ≠ w1.heap.size) := fun k hk => by
    have := hSo.lt k hk
    omega
  have HSp : Hid (SpK (fun k => (Value.slice a2 xs.length c2).ownBlock = some k) W0 a2 xs) := ⟨hSo.spa, fun _ x hx => by rw [hx]; rfl⟩
  have HWk : Hid (wks l f t (pc s2 s1 xs)) := hwk
  have hpl : (pc s2 s1 xs).length ≤ 4001 := hwk.len
  clear hW hSo hb0 hwk hBl hV HBV HB1 HQ HL
  gi_wp2_with fail
  refine wpIn_rangeFunc_ownH rfl h1 (gf := 145) (lb := #[.pointer (some ⟨Bs, 0, none⟩), .pointer (some ⟨Bl, 0, none⟩)]) rfl trivial (enters_of Tryd.func145 (by kernel_rfl) rfl)
    (piecesK_stops (n - 1) (by omega) Bs Bl (fun k => (Value.slice a2 xs.length c2).ownBlock = some k) a2 c2 xs s1 s2 (by omega) W0 hBs hBl' HSp.out) KpK.trans (kpK_b (fun k hk => (HK.out k hk).1) hBsl) (Below.refl _ _) (fun _ => rfl)
    (MI w1.heap.size Bs W0.heap.size (fun k => (Value.slice a2 xs.length c2).ownBlock = some k) w s1 s2) (fun _ _ _ => False)
    (MI.own HB0.out.size) (fun _ _ _ _ _ hs _ _ => hs)
    ⟨⟨_, hS0, SOwn.nil _ _⟩, hBs, HB0.out, Nat.le_refl _⟩
    (fun x a' W => ∃ Bx, W.heap[Bx]? = some (.cells #[.int .i64 x.1.1, .int .i64 x.1.2] 36 (0, 0)) ∧ a' = { tmps := #[.slice a l.length c, .int .i64 f, .int .i64 t, undef, undef, undef, .slice none 0 0, .int .i64 0, .pointer (some ⟨w1.heap.size, 0, none⟩), .pointer (some ⟨Bx, 0, none⟩), .bool x.2, .slice a l.length c, .bool true, .bool false, .int .i64 f, .bool true, .bool false, .bool false, .int .i64 t, .bool true, .bool false, .bool false, .slice a l.length c, .int .i64 f, .int .i64 t, .agg #[.int .i64 f, .int .i64 t], .func (.func 145) #[] #[.pointer (some ⟨Bs, 0, none⟩), .pointer (some ⟨Bl, 0, none⟩)], .agg #[.int .i64 x.1.1, .int .i64 x.1.2], .bool x.2, undef, undef, undef, undef, undef, undef, undef, undef, undef, undef, undef, undef], defers := [] })
    (fun x a' _ X Y row hs hg hr => by obtain ⟨Bx, h2, h3⟩ := hs; exact ⟨Bx, cells_keep h2 hg hr, h3⟩)
    ?assign ?body ?done ?stop
  case assign =>
    rintro l' pre x W K hGI hK
    gi_wp2
    exact hK _ _ ((KeepsOthers.alloc _ _).from _) ⟨.of_below ((Below.refl _ W).alloc (Nat.le_refl _) _), Below.heap_alloc W _ _ (Array.getElem?_eq_some_iff.1 hGI.sb).1⟩ (hGI.alloc _) ⟨W.heap.size, heap_alloc_new' _ _, rfl⟩
  case body =>
    rintro l' pre x a' W hl' hr hGI ⟨Bx, hxb, rfl⟩ hlt
    obtain ⟨⟨x1, x2⟩, xb⟩ := x
    obtain ⟨v, hv, hrow⟩ := hGI.row
    obtain ⟨av, cv, rfl⟩ := hrow.shape
    obtain ⟨nl, hnl⟩ : ∃ n, ((pick false pre).take 2000).length = n := ⟨_, rfl⟩
    have HNl : Hid (((pick false pre).take 2000).length = nl) := hnl
    have hn2 : nl ≤ 2000 := by rw [← hnl, List.length_take]; exact Nat.min_le_left _ _
    rw [hnl] at hv hrow
    have hc := hv.cell
    have k0 : W.cell? ⟨Bx, 0, none⟩ = some (.int .i64 x1) := by rw [cell_of_row _ _ _ _ _ _ hxb]; rfl
    have k1 : W.cell? ⟨Bx, 1, none⟩ = some (.int .i64 x2) := by rw [cell_of_row _ _ _ _ _ _ hxb]; rfl
    have HGI : Hid (MI w1.heap.size Bs W0.heap.size (fun k => (Value.slice a2 xs.length c2).ownBlock = some k) w s1 s2 pre W) := hGI
    have hbig := hGI.big
    have HRow : Hid (SOwn W W0.heap.size (.slice av nl cv) ((pick false pre).take 2000)) := hrow
    have HNe : Hid (Bs ≠ w1.heap.size) := by show Bs ≠ _; omega
    clear hGI hxb hr hnl hrow
    cases xb with
    | true =>
      gi_wp2
      exact ⟨KeepsFrom.refl _ _, KpK.refl _ _ _, ⟨⟨_, hv, by rw [pick_miss _ _ _ _ (by decide)]; exact HRow.out⟩, HGI.out.sb, HGI.out.low, HGI.out.big⟩⟩
    | false =>
      by_cases hlen : (pick false pre).length < 2000
      · have hnl2 : (nl : Int) < 2000 := by
          have := HNl.out
          rw [List.length_take] at this
          omega
        gi_wp2_with (gi_at_builtin; refine wpListIn_append_own _ rfl _ _ 26 rfl W0.heap.size 36 i0 (.agg #[.int .i64 0, .int .i64 0]) 2 16 Tryd.underlying26 hi hz0 hz1 hz2 rfl (by decide) (.slice av nl cv) ((pick false pre).take 2000).length (((pick false pre).take 2000).flatMap spc) rfl (World.ownsRow.alloc HRow.out _) ⟨W.heap.size, 0, none⟩ 1 1 [.int .i64 x1, .int .i64 x2] rfl rfl ?c1 ?c2 ?c3 ?c4 ?c5 ?_)
        case c1 => exact cell_two_new _ _ _ _
        case c2 => intro u hu; simp at hu; rcases hu with rfl | rfl <;> rfl
        case c3 => unfold maxLen; have := HNl.out; omega
        case c4 => have := HNl.out; omega
        case c5 => simp; omega
        intro v' w2 hown' hgrow _
        rw [← List.length_take] at hown'
        obtain ⟨g', cap', rfl⟩ := ownsRow_succ hown'
        obtain ⟨hv1, hk2, hp2, hg2⟩ := HGI.out.put (s := (x1, x2)) hSl hBsl HNe.out hw1 HK.out hlen hv HRow.out hown' hgrow
        have hc1 := hv1.cell
        have hf1 := hv1.frozen
        gi_wp2
        simp only [List.length_take] at hk2 hp2 hg2
        exact ⟨hk2.from _, hp2, hg2⟩
      · have hnl2 : ¬ (nl : Int) < 2000 := by
          have := HNl.out
          rw [List.length_take] at this
          omega
        gi_wp2
        exact ⟨KeepsFrom.refl _ _, KpK.refl _ _ _, ⟨⟨_, hv, by rw [take_full hlen]; exact HRow.out⟩, HGI.out.sb, HGI.out.low, HGI.out.big⟩⟩
  case done =>
    rintro D ys W hD rfl hGI hK
    obtain ⟨v, hv, hrow⟩ := hGI.row
    have hc := hv.cell
    obtain ⟨a3, c3, rfl⟩ := hrow.shape
    have HS3 : Hid (SOwn (W.putObj D (.deferred none)) w.heap.size (.slice a3 ((pick false (pc s2 s1 xs)).take 2000).length c3) ((pick false (pc s2 s1 xs)).take 2000)) := SOwn.base (ownsRow_putObj hrow _ hK rfl) HB0.out.size
    have HB3 : Hid (Below w.heap.size w (W.putObj D (.deferred none))) := hGI.low.trans (belowK_b (w := w) (Nat.le_refl _) W D _ _ (by have := HB0.out.size; omega) hK rfl rfl)
    obtain ⟨nl, hnl⟩ : ∃ n, ((pick false (pc s2 s1 xs)).take 2000).length = n := ⟨_, rfl⟩
    rw [hnl] at hc HS3
    clear hGI hrow hv hnl
    gi_wp2
    refine ⟨by simp, .inl ⟨_, _, rfl, run_takeDeferred hK, ?_⟩⟩
    exact ⟨_, results_tmp2 rfl _ _ _, _, _, 0, rfl, HS3.out, HMr.out _ HWk.out, HB3.out⟩
  case stop =>
    rintro D c' pre W _ _ h _
    exact h.elim


set_option maxHeartbeats 2000000 in
theorem missing_any {v : Value} {l : List Sp} {w : World} (f t : Int) (h : Ls w v l) : Calls Tryd.prog 32 #[v, .int .i64 f, .int .i64 t] w (MsPost l f t w) := by
  obtain ⟨a, c, rfl, _⟩ := h.shape
  by_cases hq : IsSet l
  · by_cases hf : inB f t
    · exact callsIn_wide.1 (missing_in f t h hq hf 9 (Nat.le_refl _))
    · have hR := right_ls h
      rw [setB_iff.mpr hq] at hR
      have HMr : Hid (MR l f t [] 50) := .inr (.inl ⟨hq, hf, rfl, rfl⟩)
      have hB1 := fun W => between5_any f 0 65536 W
      have hB2 := fun W => between5_any t 0 65536 W
      by_cases h1 : 0 ≤ f ∧ f ≤ 65536
      · have h2 : ¬ (0 ≤ t ∧ t ≤ 65536) := fun h2 => hf ⟨h1, h2⟩
        simp only [decide_eq_true h1] at hB1
        simp only [decide_eq_false h2] at hB2
        clear h1 h2 hf hq h
        go_enter Tryd.func32, Tryd.ntmps32
        go_wp2_with fail
        refine hR.mono ?_
        rintro e w1 ⟨rfl, hb1⟩
        have HB1 : Hid (Below w.heap.size w w1) := hb1
        clear hR hb1
        go_wp2_with fail
        refine (hB1 w1).mono ?_
        rintro e w2 ⟨rfl, hw2⟩
        subst hw2
        go_wp2_with fail
        refine (hB2 w1).mono ?_
        rintro e w2 ⟨rfl, hw2⟩
        subst hw2
        go_wp2
        refine bodyPost_ret (v := .tuple #[.slice none 0 0, .int .i64 50]) (by simp [results, Tryd.results32, go_sem]) rfl ?_
        exact ⟨_, _, _, rfl, SOwn.nil _ _, HMr.out, HB1.out⟩
      · simp only [decide_eq_false h1] at hB1
        clear h1 hf hq h hB2
        go_enter Tryd.func32, Tryd.ntmps32
        go_wp2_with fail
        refine hR.mono ?_
        rintro e w1 ⟨rfl, hb1⟩
        have HB1 : Hid (Below w.heap.size w w1) := hb1
        clear hR hb1
        go_wp2_with fail
        refine (hB1 w1).mono ?_
        rintro e w2 ⟨rfl, hw2⟩
        subst hw2
        go_wp2
        refine bodyPost_ret (v := .tuple #[.slice none 0 0, .int .i64 50]) (by simp [results, Tryd.results32, go_sem]) rfl ?_
        exact ⟨_, _, _, rfl, SOwn.nil _ _, HMr.out, HB1.out⟩
  · have hR := right_ls h
    have hs : setB l = false := by
      cases e : setB l
      · rfl
      · exact absurd (setB_iff.mp e) hq
    rw [hs] at hR
    have HMr : Hid (MR l f t [] 30) := .inl ⟨hq, rfl, rfl⟩
    clear hq h hs
    go_enter Tryd.func32, Tryd.ntmps32
    go_wp2_with fail
    refine hR.mono ?_
    rintro e w1 ⟨rfl, hb1⟩
    have HB1 : Hid (Below w.heap.size w w1) := hb1
    clear hR hb1
    go_wp2
    refine bodyPost_ret (v := .tuple #[.slice none 0 0, .int .i64 30]) (by simp [results, Tryd.results32, go_sem]) rfl ?_
    exact ⟨_, _, _, rfl, SOwn.nil _ _, HMr.out, HB1.out⟩

end Go.Proofs.YtkkmoplijicmpaeDoor.C

namespace Go.Proofs.YtkkmoplijicmpaeDoor.C
open Go.RowKit Go.Shelf
set_option linter.unusedVariables false

/-! ## The reference's Missing -/
end Go.Proofs.YtkkmoplijicmpaeDoor.C
