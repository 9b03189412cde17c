import Derived.Test.YtillgoegiplmkaaGreatDoorTbEk
import Derived.Deep.CutBlock
import Derived.Deep.AppendLies
namespace Go.Proofs.YtillgoegiplmkaaGreatDoor.B
open C
open Go.RowKit Go.Maps
set_option linter.unusedVariables false
set_option linter.unusedSimpArgs false

theorem flat_at {α : Type} (f : α → List Value) (s : Nat) (hs : ∀ x, (f x).length = s) : ∀ (L : List α) (k : Nat) (x : α) (j : Nat), L[k]? = some x → j < s → (L.flatMap f)[k * s + j]? = (f x)[j]?
  | [], k, x, j, h, _ => by simp at h
  | y :: r, 0, x, j, h, hj => by
    simp only [List.getElem?_cons_zero, Option.some.injEq] at h
    subst h
    rw [List.flatMap_cons, Nat.zero_mul, Nat.zero_add, List.getElem?_append_left (by rw [hs]; exact hj)]
  | y :: r, k + 1, x, j, h, hj => by
    rw [List.getElem?_cons_succ] at h
    rw [List.flatMap_cons, List.getElem?_append_right (by rw [hs, Nat.add_mul]; omega), hs, show (k + 1) * s + j - s = k * s + j by rw [Nat.add_mul]; omega]
    exact flat_at f s hs r k x j h hj
theorem own_cell9 {base g N cap : Nat} {w : World} {P : List (Og × Value)} (h : w.ownsRow base 110 9 (.slice (some ⟨g, 0, none⟩) N cap) N (P.flatMap ogc)) {k : Nat} {x : Og × Value} (hk : P[k]? = some x) {j : Nat} (hj : j < 9) {u : Value} (hu : (ogc x)[j]? = some u) : w.cell? ⟨g, k * 9 + j, none⟩ = some u :=
  own_cell h ((flat_at ogc 9 (fun _ => rfl) P k x j hk hj).trans hu)
theorem nxt_snoc : ∀ (l : List Og) (n : Int) (x : Og), nxt n (l ++ [x]) = x.num + 1
  | [], _, _ => rfl
  | y :: r, n, x => nxt_snoc r (y.num + 1) x
theorem exV_len (q : Og × Value) : 1 ≤ (exV q).length ∧ (exV q).length ≤ 2 := by
  unfold exV
  split <;> simp
/-- exportsOf under way. -/
structure XJ (B : Array Value) (w : World) (v : Value) (R : List Rv) (W : World) : Prop where
  low : Below w.heap.size w W
  row : RrR W w.heap.size v R
  bx : W.heap[w.heap.size]? = some (.cells B 58)
theorem XJ.below {B : Array Value} {w W W' : World} {v : Value} {R : List Rv} (h : XJ B w v R W) (hb : Below W.heap.size W W') : XJ B w v R W' :=
  ⟨h.low.trans (hb.mono h.low.size), own_at h.row (fun g hg => hb.block g (World.ownsRow.lt h.row g hg).2), (hb.block _ (Array.getElem?_eq_some_iff.1 h.bx).1).trans h.bx⟩
theorem XJ.push {B : Array Value} {w W w6 : World} {v v6 : Value} {R S : List Rv} (h : XJ B w v R W) (hg : W.grownBy w6 v.ownBlock) (hown : w6.ownsRow w.heap.size 35 11 v6 (R.length + S.length) (R.flatMap rcc ++ S.flatMap rcc)) : XJ B w v6 (R ++ S) w6 := by
  have hl := (Array.getElem?_eq_some_iff.1 h.bx).1
  refine ⟨h.low.trans ⟨hg.os, hg.tape, hg.output, hg.size, fun g hgl => ?_⟩, ?_, ?_⟩
  · exact hg.block g (by have := h.low.size; omega) (fun e => by have := (World.ownsRow.lt h.row g e.symm).1; omega)
  · unfold RrR
    rw [List.length_append, List.flatMap_append]
    exact hown
  · exact (hg.block _ hl (fun e => own_nb h.row h.bx (by decide) e.symm)).trans h.bx
def nxr (nx : Int) : Rc := { rc0 2 (0, 0) with size := nx }
/-- The rows of the exports. -/
def xrs (nx : Int) (P : List (Og × Value)) : List Rv := P.flatMap exV ++ (if nx ≠ nxt 1 (P.map Prod.fst) then [(nxr nx, nilV, nilV)] else [])
def XoP (nx : Int) (P : List (Og × Value)) (w : World) (e : Ending) (w' : World) : Prop := ∃ a n c, e = .returned (.slice a n c) ∧ RrR w' w.heap.size (.slice a n c) (xrs nx P) ∧ Below w.heap.size w w'
set_option maxRecDepth 8000 in
set_option maxHeartbeats 8000000 in
theorem exportsOf_any (id bo nx : Int) (ao ai «at» : Option Addr) (no ni nt co ci ct : Nat) (P : List (Og × Value)) (w : World) (lo : Nat) (hO : w.ownsRow lo 110 9 (.slice ao no co) P.length (P.flatMap ogc)) (hsl : ∀ p ∈ P, ∃ a n c, p.2 = .slice a n c) (hnum : ∀ p ∈ P, 0 ≤ p.1.num ∧ p.1.num ≤ mxN) (hlen : P.length ≤ 1073741824) :
    Calls Tryz.prog 52 #[.agg #[.int .i64 id, .int .i64 bo, .int .i64 nx, .slice ao no co, .slice ai ni ci, .slice «at» nt ct]] w (XoP nx P w) := by
  obtain ⟨i0, hi, hz0, hz1, hz2⟩ := info_parts Tryz.info_rec
  have hno : no = P.length := by
    obtain ⟨_, ⟨q, q'⟩ | ⟨g', cap', cur, q, _⟩⟩ := hO
    · simp only [Value.slice.injEq] at q; omega
    · simp only [Value.slice.injEq] at q; omega
  subst hno
  have HH : Hid (w.ownsRow lo 110 9 (.slice ao P.length co) P.length (P.flatMap ogc) ∧ (∀ p ∈ P, ∃ a n c, p.2 = .slice a n c) ∧ (∀ p ∈ P, 0 ≤ p.1.num ∧ p.1.num ≤ mxN) ∧ P.length ≤ 1073741824) := ⟨hO, hsl, hnum, hlen⟩
  obtain ⟨N, hN⟩ : ∃ N, P.length = N := ⟨_, rfl⟩
  have HN : Hid (P.length = N) := hN
  have hNl : N ≤ 1073741824 := by omega
  rw [hN]
  obtain ⟨V, hV⟩ : ∃ V, w.alloc (.cells #[.int .i64 id, .int .i64 bo, .int .i64 nx, .slice ao N co, .slice ai ni ci, .slice «at» nt ct] 58) = V := ⟨_, rfl⟩
  have HV : Hid (w.alloc (.cells #[.int .i64 id, .int .i64 bo, .int .i64 nx, .slice ao N co, .slice ai ni ci, .slice «at» nt ct] 58) = V) := hV
  have hbV : Below w.heap.size w V := by rw [← hV]; exact (Below.refl _ _).alloc (Nat.le_refl _) _
  have hhV : V.heap[w.heap.size]? = some (.cells #[.int .i64 id, .int .i64 bo, .int .i64 nx, .slice ao N co, .slice ai ni ci, .slice «at» nt ct] 58) := by rw [← hV]; exact heap_alloc_new' w _
  have HJ0 : Hid (XJ #[.int .i64 id, .int .i64 bo, .int .i64 nx, .slice ao N co, .slice ai ni ci, .slice «at» nt ct] w nilV [] V) := ⟨hbV, World.ownsRow_nil _ _ _ _, hhV⟩
  have c3 : V.cell? ⟨w.heap.size, 3, none⟩ = some (.slice ao N co) := (cell_of_row _ _ _ _ _ _ hhV).trans rfl
  clear hV hbV hhV hO hsl hnum hlen hN
  go_enter Tryz.func52, Tryz.ntmps52
  go_upto_region 1 with fail
  rw [HV.out]
  go_wp2_with fail
  clear c3
  go_loopw [3, 4, 10] (fun q m j wr => ∃ k : Nat, j = .int .i64 k ∧ m = .int .i64 (nxt 1 ((P.map Prod.fst).take k)) ∧ Hid (k ≤ N ∧ ((P.take k).flatMap exV).length ≤ 2 * k ∧ XJ #[.int .i64 id, .int .i64 bo, .int .i64 nx, .slice ao N co, .slice ai ni ci, .slice «at» nt ct] w q ((P.take k).flatMap exV) wr)) (fun _ _ j _ => N - (intOf j).toNat)
  case atStart => exact ⟨0, rfl, rfl, Nat.zero_le _, by simp, HJ0.out⟩
  case round =>
    obtain ⟨k, rfl, rfl, hh⟩ := hrel
    have HK := hh.out
    clear HJ0 hh
    by_cases hlt : k < N
    · have hlt' : (k : Int) < (N : Int) := by omega
      obtain ⟨hk, hl2, hR⟩ := HK
      have hkl : k < P.length := by have := HN.out; omega
      obtain ⟨⟨o, vd⟩, hk9⟩ := get_some P k hkl
      have hmem := List.mem_of_getElem? hk9
      obtain ⟨av, nv, cv, e2⟩ := HH.out.2.1 _ hmem
      simp only at e2
      subst e2
      have hnm := HH.out.2.2.1 _ hmem
      simp only [mxN] at hnm
      have hOw := own_at HH.out.1 (fun g hg => hR.low.block g (World.ownsRow.lt HH.out.1 g hg).2)
      rw [HN.out] at hOw
      obtain ⟨gs, cp, e3, _, hgs⟩ := World.ownsRow.form hOw (by omega)
      cases e3
      have p0 : wr.cell? ⟨gs, k * 9, none⟩ = some (.int .i64 o.org) := own_cell9 hOw hk9 (j := 0) (by decide) (u := .int .i64 o.org) rfl
      have p1 : wr.cell? ⟨gs, k * 9 + 1, none⟩ = some (.int .i64 o.num) := own_cell9 hOw hk9 (j := 1) (by decide) (u := .int .i64 o.num) rfl
      have p2 : wr.cell? ⟨gs, k * 9 + 2, none⟩ = some (.int .i64 o.peer) := own_cell9 hOw hk9 (j := 2) (by decide) (u := .int .i64 o.peer) rfl
      have p3 : wr.cell? ⟨gs, k * 9 + 3, none⟩ = some (.int .i64 o.srv) := own_cell9 hOw hk9 (j := 3) (by decide) (u := .int .i64 o.srv) rfl
      have p4 : wr.cell? ⟨gs, k * 9 + 4, none⟩ = some (.int .i64 o.red) := own_cell9 hOw hk9 (j := 4) (by decide) (u := .int .i64 o.red) rfl
      have p5 : wr.cell? ⟨gs, k * 9 + 5, none⟩ = some (.int .i64 o.size) := own_cell9 hOw hk9 (j := 5) (by decide) (u := .int .i64 o.size) rfl
      have p6 : wr.cell? ⟨gs, k * 9 + 6, none⟩ = some (.slice av nv cv) := own_cell9 hOw hk9 (j := 6) (by decide) (u := .slice av nv cv) rfl
      have p7 : wr.cell? ⟨gs, k * 9 + 7, none⟩ = some (.bool o.ended) := own_cell9 hOw hk9 (j := 7) (by decide) (u := .bool o.ended) rfl
      have p8 : wr.cell? ⟨gs, k * 9 + 8, none⟩ = some (.int .i64 o.how) := own_cell9 hOw hk9 (j := 8) (by decide) (u := .int .i64 o.how) rfl
      obtain ⟨V2, hV2⟩ : ∃ V2, wr.alloc (.cells #[.int .i64 o.org, .int .i64 o.num, .int .i64 o.peer, .int .i64 o.srv, .int .i64 o.red, .int .i64 o.size, .slice av nv cv, .bool o.ended, .int .i64 o.how] 110) = V2 := ⟨_, rfl⟩
      have HV2 : Hid (wr.alloc (.cells #[.int .i64 o.org, .int .i64 o.num, .int .i64 o.peer, .int .i64 o.srv, .int .i64 o.red, .int .i64 o.size, .slice av nv cv, .bool o.ended, .int .i64 o.how] 110) = V2) := hV2
      have hb2 : Below wr.heap.size wr V2 := by rw [← hV2]; exact (Below.refl _ _).alloc (Nat.le_refl _) _
      have hx2 : V2.heap[wr.heap.size]? = some (.cells #[.int .i64 o.org, .int .i64 o.num, .int .i64 o.peer, .int .i64 o.srv, .int .i64 o.red, .int .i64 o.size, .slice av nv cv, .bool o.ended, .int .i64 o.how] 110) := by rw [← hV2]; exact heap_alloc_new' wr _
      have hX2 := hR.below hb2
      obtain ⟨R, hRe⟩ : ∃ R, (P.take k).flatMap exV = R := ⟨_, rfl⟩
      rw [hRe] at hl2 hX2
      have HRe : Hid ((P.take k).flatMap exV = R) := hRe
      have HX : Hid (XJ _ w u3 R V2 ∧ V2.heap[wr.heap.size]? = some (.cells #[.int .i64 o.org, .int .i64 o.num, .int .i64 o.peer, .int .i64 o.srv, .int .i64 o.red, .int .i64 o.size, .slice av nv cv, .bool o.ended, .int .i64 o.how] 110) ∧ P[k]? = some (o, .slice av nv cv) ∧ k ≤ N ∧ R.length ≤ 2 * k) := ⟨hX2, hx2, hk9, hk, hl2⟩
      have HEx : Hid (Calls Tryz.prog 87 #[oV o (.slice av nv cv)] V2 fun e w' => ∃ a n c, e = .returned (.slice a n c) ∧ RrR w' V2.heap.size (.slice a n c) (exV (o, .slice av nv cv)) ∧ Below V2.heap.size V2 w') := exportOf_any o av nv cv V2
      have y0 : V2.cell? ⟨wr.heap.size, 0, none⟩ = some (.int .i64 o.org) := (cell_of_row _ _ _ _ _ _ hx2).trans rfl
      have y1 : V2.cell? ⟨wr.heap.size, 1, none⟩ = some (.int .i64 o.num) := (cell_of_row _ _ _ _ _ _ hx2).trans rfl
      have y2 : V2.cell? ⟨wr.heap.size, 2, none⟩ = some (.int .i64 o.peer) := (cell_of_row _ _ _ _ _ _ hx2).trans rfl
      have y3 : V2.cell? ⟨wr.heap.size, 3, none⟩ = some (.int .i64 o.srv) := (cell_of_row _ _ _ _ _ _ hx2).trans rfl
      have y4 : V2.cell? ⟨wr.heap.size, 4, none⟩ = some (.int .i64 o.red) := (cell_of_row _ _ _ _ _ _ hx2).trans rfl
      have y5 : V2.cell? ⟨wr.heap.size, 5, none⟩ = some (.int .i64 o.size) := (cell_of_row _ _ _ _ _ _ hx2).trans rfl
      have y6 : V2.cell? ⟨wr.heap.size, 6, none⟩ = some (.slice av nv cv) := (cell_of_row _ _ _ _ _ _ hx2).trans rfl
      have y7 : V2.cell? ⟨wr.heap.size, 7, none⟩ = some (.bool o.ended) := (cell_of_row _ _ _ _ _ _ hx2).trans rfl
      have y8 : V2.cell? ⟨wr.heap.size, 8, none⟩ = some (.int .i64 o.how) := (cell_of_row _ _ _ _ _ _ hx2).trans rfl
      clear hRe hOw hk hl2 hR hkl hmem hk9 hV2 hb2 hx2 hX2 hgs
      go_upto_region 6 with fail
      rw [HV2.out]
      go_upto_region 7 with (first
        | (go_at_call 87
           go_loud (
             refine HEx.out.mono ?_
             rintro e3 w3 ⟨a3, n3, c3, rfl, r3, b3⟩
             have hXl := HX.out.2.2.2
             have hq3 := HX.out.1.below b3
             have hE := exV_len (o, .slice av nv cv)
             have hE3 : n3 = (exV (o, .slice av nv cv)).length ∧ ∃ g3, a3 = some ⟨g3, 0, none⟩ := by
               obtain ⟨g3, cp3, q3, _, _⟩ := World.ownsRow.form r3 (by omega)
               simp only [Value.slice.injEq] at q3
               exact ⟨q3.2.1, g3, q3.1⟩
             obtain ⟨e3n, g3, rfl⟩ := hE3
             have hl3 : ((exV (o, .slice av nv cv)).flatMap rcc).length = n3 * 11 := by rw [rcc_len, e3n]
             have hc3 : ∀ j u, ((exV (o, .slice av nv cv)).flatMap rcc)[j]? = some u → w3.cell? ((⟨g3, 0, none⟩ : Addr).add j) = some u := fun j u hj => by
               have h := own_cell (by unfold RrR at r3; rw [← e3n] at r3; exact r3) hj
               by_cases hj0 : j = 0
               · subst hj0; simpa [Addr.add] using h
               · simpa [Addr.add, hj0] using h
             have ho3 : ∀ u ∈ (exV (o, .slice av nv cv)).flatMap rcc, u.oneCell' = true := rcc_one (fun x hx => by
               unfold exV at hx
               simp only [List.mem_cons] at hx
               rcases hx with rfl | hx
               · exact ⟨rfl, rfl⟩
               · split at hx
                 · simp only [List.mem_singleton] at hx; subst hx; exact ⟨rfl, rfl⟩
                 · cases hx)
             have hrow3 := hq3.row
             have hnb3 : R.length + n3 ≤ maxLen := by unfold maxLen; omega
             have hnc3 : (R.length + n3) * 120 ≤ 140737488355328 := by omega
             have hwl3 : w.heap.size ≤ w3.heap.size := hq3.low.size
             have hx3 : w3.heap[wr.heap.size]? = some (.cells #[.int .i64 o.org, .int .i64 o.num, .int .i64 o.peer, .int .i64 o.srv, .int .i64 o.red, .int .i64 o.size, .slice av nv cv, .bool o.ended, .int .i64 o.how] 110) := (b3.block _ (Array.getElem?_eq_some_iff.1 HX.out.2.1).1).trans HX.out.2.1
             have H3 : Hid (XJ _ w u3 R w3 ∧ w3.heap[wr.heap.size]? = some (.cells #[.int .i64 o.org, .int .i64 o.num, .int .i64 o.peer, .int .i64 o.srv, .int .i64 o.red, .int .i64 o.size, .slice av nv cv, .bool o.ended, .int .i64 o.how] 110) ∧ n3 = (exV (o, .slice av nv cv)).length) := ⟨hq3, hx3, e3n⟩
             clear hq3 hx3 e3n hE hXl r3 b3))
        | (at_builtin; refine wpList_append_own_at _ rfl _ _ 43 rfl w.heap.size 35 i0 _ 11 120 Tryz.underlying43 hi hz0 hz1 hz2 rfl (by decide) _ _ _ rfl hrow3 ⟨g3, 0, none⟩ n3 c3 ((exV (o, .slice av nv cv)).flatMap rcc) rfl hl3 hc3 ho3 hnb3 hnc3 hwl3 ?_
           intro v6 w6 hown6 hgrow6 _ hat6
           have HG6 : Hid (w6.ownsRow _ _ _ _ _ _ ∧ w3.grownBy w6 _) := And.intro hown6 hgrow6
           have hx6 : w6.heap[wr.heap.size]? = some (.cells #[.int .i64 o.org, .int .i64 o.num, .int .i64 o.peer, .int .i64 o.srv, .int .i64 o.red, .int .i64 o.size, .slice av nv cv, .bool o.ended, .int .i64 o.how] 110) := (hgrow6.block _ (Array.getElem?_eq_some_iff.1 H3.out.2.1).1 (fun e => own_nb H3.out.1.row H3.out.2.1 (by decide) e.symm)).trans H3.out.2.1
           have q1 : w6.cell? ⟨wr.heap.size, 1, none⟩ = some (.int .i64 o.num) := (cell_of_row _ _ _ _ _ _ hx6).trans rfl
           clear hown6 hgrow6 hat6 hx6 hrow3 hl3 hc3 ho3))
      obtain ⟨hown6, hgrow6⟩ := HG6.out
      rw [H3.out.2.2] at hown6
      have hX6 := H3.out.1.push hgrow6 hown6
      have hS : (P.take (k + 1)).flatMap exV = R ++ exV (o, .slice av nv cv) := by rw [take_one HX.out.2.2.1, List.flatMap_append, HRe.out]; simp
      have hT : nxt 1 ((P.map Prod.fst).take (k + 1)) = o.num + 1 := by rw [take_one (x := o) (by rw [List.getElem?_map, HX.out.2.2.1]; rfl), nxt_snoc]
      have hE := exV_len (o, .slice av nv cv)
      have HRel : Hid (k + 1 ≤ N ∧ ((P.take (k + 1)).flatMap exV).length ≤ 2 * (k + 1) ∧ XJ _ w v6 ((P.take (k + 1)).flatMap exV) w6) := ⟨by omega, by rw [hS, List.length_append]; have := HX.out.2.2.2.2; omega, by rw [hS]; exact hX6⟩
      obtain ⟨a6, n6, c6, rfl⟩ := own_sl8 hown6
      have HT : Hid (nxt 1 ((P.map Prod.fst).take (k + 1)) = o.num + 1) := hT
      clear hown6 hgrow6 hX6 hS hT hE p0 p1 p2 p3 p4 p5 p6 p7 p8 y0 y1 y2 y3 y4 y5 y6 y7 y8
      go_wp2
      go_roundw
      case rel => exact ⟨k + 1, by go_num, by first | rw [HT.out] | (rw [HT.out]; go_num), HRel.out⟩
      case measure => simp [intOf]; omega
    · have hkn : k = N := by omega
      obtain ⟨hk, hl2, hR⟩ := HK
      subst hkn
      have hP1 : P.take k = P := by rw [← HN.out]; exact List.take_length
      have hP2 : (P.map Prod.fst).take k = P.map Prod.fst := by rw [show k = (P.map Prod.fst).length by rw [List.length_map]; exact HN.out.symm]; exact List.take_length
      rw [hP1] at hl2 hR
      rw [hP2]
      obtain ⟨m, hm⟩ : ∃ m, nxt 1 (P.map Prod.fst) = m := ⟨_, rfl⟩
      have HM : Hid (nxt 1 (P.map Prod.fst) = m) := hm
      rw [hm]
      obtain ⟨ua, un, uc, rfl⟩ := own_sl8 hR.row
      have x2 : wr.cell? ⟨w.heap.size, 2, none⟩ = some (.int .i64 nx) := (cell_of_row _ _ _ _ _ _ hR.bx).trans rfl
      obtain ⟨R, hRe⟩ : ∃ R, P.flatMap exV = R := ⟨_, rfl⟩
      rw [hRe] at hl2 hR
      have HRe : Hid (P.flatMap exV = R) := hRe
      have HR : Hid (R.length ≤ 2 * k ∧ XJ _ w (.slice ua un uc) R wr) := ⟨hl2, hR⟩
      have hlt' : ¬ (k : Int) < (k : Int) := by omega
      clear hm hl2 hR hP1 hP2 hRe
      by_cases hne : nx = m
      · subst hne
        go_wp2
        go_ret
        exact ⟨_, _, _, rfl, by unfold xrs; rw [if_neg (by rw [HM.out]; simp), List.append_nil, HRe.out]; exact HR.out.2.row, HR.out.2.low⟩
      · have hrow := World.ownsRow.alloc HR.out.2.row (.cells #[.int .i64 2, .int .i64 0, .int .i64 0, .int .i64 0, .int .i64 0, .int .i64 0, .int .i64 0, .int .i64 nx, .int .i64 0, .slice none 0 0, .slice none 0 0] 35)
        have hwl : w.heap.size ≤ (wr.alloc (.cells #[.int .i64 2, .int .i64 0, .int .i64 0, .int .i64 0, .int .i64 0, .int .i64 0, .int .i64 0, .int .i64 nx, .int .i64 0, .slice none 0 0, .slice none 0 0] 35)).heap.size := by have := HR.out.2.low.size; simp; omega
        have hnb : R.length + 1 ≤ maxLen := by have := HR.out.1; unfold maxLen; omega
        have hnc : (R.length + 1) * 120 ≤ 140737488355328 := by have := HR.out.1; omega
        go_wp2_with (at_builtin; refine wpList_append_own_at _ rfl _ _ 43 rfl w.heap.size 35 i0 _ 11 120 Tryz.underlying43 hi hz0 hz1 hz2 rfl (by decide) _ _ _ rfl hrow ⟨wr.heap.size, 0, none⟩ 1 1 (rcc (nxr nx, nilV, nilV)) rfl rfl ?c1 ?c2 hnb hnc hwl ?_)
        case c1 => first | exact cells_new wr (rcc (nxr nx, nilV, nilV)) 35 | exact fun j u h => h
        case c2 => exact fun u hu => rcc_one (R := [(nxr nx, nilV, nilV)]) (fun x hx => by simp only [List.mem_singleton] at hx; subst hx; exact ⟨rfl, rfl⟩) u (by simpa using hu)
        intro v6 w6 hown6 hgrow6 _ hat6
        have hX := (HR.out.2.below ((Below.refl _ _).alloc (Nat.le_refl _) _)).push (S := [(nxr nx, nilV, nilV)]) hgrow6 (by rw [show [(nxr nx, nilV, nilV)].flatMap rcc = rcc (nxr nx, nilV, nilV) from by simp]; exact hown6)
        obtain ⟨a6, n6, c6, rfl⟩ := own_sl8 hown6
        have HE : Hid (RrR w6 w.heap.size (.slice a6 n6 c6) (xrs nx P) ∧ Below w.heap.size w w6) := ⟨by unfold xrs; rw [if_pos (by rw [HM.out]; exact hne), HRe.out]; exact hX.row, hX.low⟩
        clear hX hown6 hgrow6 hat6 hrow hwl hnb hnc
        go_wp2
        go_ret
        exact ⟨_, _, _, rfl, HE.out⟩
end Go.Proofs.YtillgoegiplmkaaGreatDoor.B
