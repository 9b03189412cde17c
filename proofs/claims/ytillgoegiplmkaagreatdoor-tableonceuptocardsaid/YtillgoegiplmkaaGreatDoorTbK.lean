import Derived.Test.YtillgoegiplmkaaGreatDoorTbR
import Derived.Test.YtillgoegiplmkaaGreatDoorTbGr
import Derived.Test.YtillgoegiplmkaaGreatDoorTbEl
namespace Go.Proofs.YtillgoegiplmkaaGreatDoor.B
open C
set_option linter.unusedVariables false
set_option linter.unusedSimpArgs false

theorem ld_im (M : MY) {d b n : Int} {ex : List Og} {pre : List Ic} {i : Ic} (h1 : 1 ≤ d) (h : i.Ok d) (hp : Srt ltS Ic.s (pre ++ [i])) :
    Ld ⟨d, b, n, ex, pre, []⟩ (imR i) ⟨d, b, n, ex, pre ++ [i], []⟩ := by
  have d0 : d ≠ 0 := by omega
  obtain ⟨b1, b2⟩ := beg_new (d := d) (b := b) (n := n) (ex := ex) hp h.org.2.2
  unfold imR
  cases hg : i.gone with
  | true =>
    rw [if_pos rfl]
    refine ⟨can_ok (M.m8 d i h) ?_ (fits_no (by simp [rc0])), ?_⟩
    · unfold T8.folw
      rw [if_neg (by simp [rc0]), if_neg d0, if_neg (by simp [rc0]), if_neg (by simp [rc0]), if_neg (by simp [rc0]), if_neg (by simp [rc0]), if_neg (by simp [rc0]), if_neg (by simp [rc0]), if_pos (by simp [rc0])]
      rw [show sR ({ rc0 8 i.s with how := i.how }) = i.s from rfl, b1]
      rfl
    · show (⟨d, b, n, ex, pre, []⟩ : T8).putI ⟨i.org, i.num, 0, 0, 0, [], [], false, true, false, false, i.how⟩ = _
      rw [← h.gn hg]
      exact put_last hp
  | false =>
    rw [if_neg (by simp)]
    cases hh : i.heard with
    | true =>
      rw [if_pos rfl]
      obtain ⟨dn, sh⟩ := h.hd hh
      obtain ⟨r1, hv⟩ := h.dn dn
      have hw := h.hw hg
      have hdt : i.data = [] := by have := h.dat; rw [if_pos hh] at this; exact List.length_eq_zero_iff.mp this
      refine ⟨can_ok (M.m12 d i h hh) ?_ (fits_no (by simp [rc0])), ?_⟩
      · unfold T8.folw
        rw [if_neg (by simp [rc0]), if_neg d0, if_neg (by simp [rc0]), if_neg (by simp [rc0]), if_neg (by simp [rc0]), if_neg (by simp [rc0]), if_neg (by simp [rc0]), if_neg (by simp [rc0]), if_neg (by simp [rc0]), if_neg (by simp [rc0]), if_neg (by simp [rc0]), if_neg (by simp [rc0])]
        exact b1
      · show (⟨d, b, n, ex, pre, []⟩ : T8).putI ⟨i.org, i.num, i.srv, i.red, i.size, [(0, i.red)], [], true, false, true, false, 0⟩ = _
        have hx : (⟨i.org, i.num, i.srv, i.red, i.size, [(0, i.red)], [], true, false, true, false, 0⟩ : Ic) = i := by
          obtain ⟨f1, f2, f3, f4, f5, f6, f7, f8, f9, f10, f11, f12⟩ := i
          simp only at dn sh hv hw hdt hg hh
          rw [dn, sh, hv, hw, hdt, hg, hh]
        rw [hx]
        exact put_last hp
    | false =>
      rw [if_neg (by simp)]
      have hw := h.hw hg
      have hne := h.some hg
      have hdt : i.data.take (lst i.hv).toNat = i.data := by
        have := h.dat; rw [if_neg (by simp [hh])] at this
        rw [← this, List.take_length]
      have hpr : ∀ q, Srt ltS Ic.s (pre ++ [q]) → q.s = i.s → (⟨d, b, n, ex, pre ++ [q], []⟩ : T8).fi i.s = some q ∧ (⟨d, b, n, ex, pre ++ [q], []⟩ : T8).at i.s = q := fun q hq e => e ▸ at_last hq
      -- the bytes
      have hA : Ld ⟨d, b, n, ex, pre, []⟩ (i.hv.map (rdR8 i)) ⟨d, b, n, ex, pre ++ [prt8 i i.hv], []⟩ := by
        cases e : i.hv with
        | nil => exact absurd e hne
        | cons s c =>
          have q := ld_red1 M (b := b) (n := n) (ex := ex) h1 h hg hh e hp
          have q2 := ld_reds M (b := b) (n := n) (ex := ex) h1 h hg hh hp (a := [s]) (c := c) (by rw [e]; rfl)
          rw [e] at q2
          exact Ld.then (a := [rdR8 i s]) q q2
      refine hA.then ?_
      have hS1 : Srt ltS Ic.s (pre ++ [prt8 i i.hv]) := srt_swap hp rfl
      obtain ⟨u1, u2⟩ := hpr (prt8 i i.hv) hS1 rfl
      cases hdn : i.done with
      | false =>
        have hsh : i.shut = false := by cases q : i.shut with | false => rfl | true => have := h.sh q; rw [hdn] at this; cases this
        have hx : prt8 i i.hv = i := by
          obtain ⟨f1, f2, f3, f4, f5, f6, f7, f8, f9, f10, f11, f12⟩ := i
          simp only at hdn hsh hw hdt hg hh
          simp only [prt8]
          rw [hdn, hsh, hw, hdt, hg, hh]
        rw [hx, hsh]
        simp [Ld]
      | true =>
        obtain ⟨r1, hv⟩ := h.dn hdn
        let i1 : Ic := { prt8 i i.hv with done := true }
        have hS2 : Srt ltS Ic.s (pre ++ [i1]) := srt_swap hp rfl
        obtain ⟨v1, v2⟩ := hpr i1 hS2 rfl
        have hD : Ld ⟨d, b, n, ex, pre ++ [prt8 i i.hv], []⟩ [rc0 7 i.s] ⟨d, b, n, ex, pre ++ [i1], []⟩ := by
          refine ⟨can_ok (M.m7 d i h) ?_ (fits_no (by simp [rc0])), ?_⟩
          · unfold T8.folw T8.und
            rw [if_neg (by simp [rc0]), if_neg d0, if_neg (by simp [rc0]), if_neg (by simp [rc0]), if_neg (by simp [rc0]), if_neg (by simp [rc0]), if_neg (by simp [rc0]), if_pos (by simp [rc0])]
            rw [show sR (rc0 7 i.s) = i.s from rfl, u1, u2]
            have r0 : (prt8 i i.hv).red ≠ 0 := by show i.red ≠ 0; omega
            have hc : cov (prt8 i i.hv).hv (0, (prt8 i i.hv).red) = true := by
              show (gps i.hv (0, i.red)).isEmpty = true
              have hmo := h.red
              rw [cover_math h.rt ⟨by simp only; omega, by simp only; omega, by simp only; omega⟩ (fun x hx => by rw [hv, has_one]; exact hx)]
              rfl
            rw [hc]
            have r0' : ¬ i.red = 0 := by omega
            simp only [prt8, Bool.not_false, Bool.and_self, Bool.true_and, Bool.and_true, decide_eq_true_eq]
            exact decide_eq_true r0'
          · show (⟨d, b, n, ex, pre ++ [prt8 i i.hv], []⟩ : T8).then' (rc0 7 i.s) = _
            unfold T8.then'
            rw [if_neg (by simp [rc0]), if_neg (by simp [rc0]), if_neg (by simp [rc0]), if_neg (by simp [rc0]), if_neg (by simp [rc0]), if_neg (by simp [rc0]), if_pos (by simp [rc0])]
            rw [show sR (rc0 7 i.s) = i.s from rfl, u2]
            exact put_over (i := i1) hS1 rfl
        rw [if_pos rfl]
        refine hD.then ?_
        cases hsh : i.shut with
        | false =>
          have hx : i1 = i := by
            show ({ prt8 i i.hv with done := true } : Ic) = i
            clear_value i1
            obtain ⟨f1, f2, f3, f4, f5, f6, f7, f8, f9, f10, f11, f12⟩ := i
            simp only at hdn hsh hw hdt hg hh
            simp only [prt8]
            rw [hdn, hsh, hw, hdt, hg, hh]
          rw [hx]
          simp [Ld]
        | true =>
          rw [if_pos rfl]
          refine ⟨can_ok (M.m10 d i h) ?_ (fits_no (by simp [rc0])), ?_⟩
          · unfold T8.folw
            rw [if_neg (by simp [rc0]), if_neg d0, if_neg (by simp [rc0]), if_neg (by simp [rc0]), if_neg (by simp [rc0]), if_neg (by simp [rc0]), if_neg (by simp [rc0]), if_neg (by simp [rc0]), if_neg (by simp [rc0]), if_neg (by simp [rc0]), if_pos (by simp [rc0])]
            rw [show sR (rc0 10 i.s) = i.s from rfl, v1]
            rfl
          · show (⟨d, b, n, ex, pre ++ [i1], []⟩ : T8).then' (rc0 10 i.s) = _
            unfold T8.then'
            rw [if_neg (by simp [rc0]), if_neg (by simp [rc0]), if_neg (by simp [rc0]), if_neg (by simp [rc0]), if_neg (by simp [rc0]), if_neg (by simp [rc0]), if_neg (by simp [rc0]), if_neg (by simp [rc0]), if_neg (by simp [rc0]), if_pos (by simp [rc0])]
            rw [show sR (rc0 10 i.s) = i.s from rfl, v2]
            have hx : ({ i1 with shut := true } : Ic) = i := by
              show ({ prt8 i i.hv with done := true, shut := true } : Ic) = i
              clear_value i1
              obtain ⟨f1, f2, f3, f4, f5, f6, f7, f8, f9, f10, f11, f12⟩ := i
              simp only at hdn hsh hw hdt hg hh
              simp only [prt8]
              rw [hdn, hsh, hw, hdt, hg, hh]
            rw [hx]
            unfold T8.settle
            rw [if_neg (by rw [hh]; simp)]
            exact put_over hS2 rfl
theorem ld_ims (M : MY) {d b n : Int} {ex : List Og} (h1 : 1 ≤ d) : ∀ {suf pre : List Ic}, (∀ x ∈ pre ++ suf, x.Ok d) → Srt ltS Ic.s (pre ++ suf) →
    Ld ⟨d, b, n, ex, pre, []⟩ (suf.flatMap imR) ⟨d, b, n, ex, pre ++ suf, []⟩
  | [], pre, _, _ => by simp [Ld]
  | x :: suf, pre, hx, hs => by
      have e : pre ++ x :: suf = (pre ++ [x]) ++ suf := by simp
      rw [e] at hx hs ⊢
      rw [List.flatMap_cons]
      exact (ld_im M h1 (hx x (by simp)) (List.pairwise_append.mp hs).1).then (ld_ims M h1 hx hs)

/-- THE STAGE'S THEOREM, of lists: a table's snapshot comes to the table. -/
theorem ld_snap (M : MY) {T : T8} (h : T.Ok) : Ld t0 T.snap T := by
  unfold T8.snap
  by_cases z : T.id = 0
  · rw [if_pos z]; exact (h.none z).symm
  · rw [if_neg z]
    have h1 : 1 ≤ T.id := by have := h.id.1; omega
    have hb := h.boots z
    have A := ld_boot M h1 h.id.2 hb.1 hb.2
    have B := ld_exs M (b := T.boots) (N := T.next) h1 h.id.2 (suf := T.ex) (pre := []) (n := 1) h.ex h.exs (fun x hx => (h.ex x hx).num.1)
    have C' := ld_nx M (b := T.boots) (ex := T.ex) h1 h.next (nxt_le (n := 1) h.ex h.next.1)
    have D := ld_ims M (b := T.boots) (n := T.next) (ex := T.ex) h1 (suf := T.im) (pre := []) h.im h.ims
    have E := ld_tbs M (b := T.boots) (n := T.next) (ex := T.ex) (im := T.im) h1 (suf := T.tb) (pre := []) h.tb h.tbs
    exact Ld.then (a := [btR T.id T.boots]) A (B.then (C'.then (D.then E)))
end Go.Proofs.YtillgoegiplmkaaGreatDoor.B

namespace Go.Proofs.YtillgoegiplmkaaGreatDoor.B
open C
set_option linter.unusedVariables false
set_option linter.unusedSimpArgs false

/-! ## How great a table is -/
theorem ins_len {κ α : Type} [DecidableEq κ] {lt : κ → κ → Bool} {key : α → κ} {x : α} : ∀ {l : List α}, (ins lt key x l).length ≤ l.length + 1
  | [] => by simp [ins]
  | y :: r => by
    rw [ins]
    have := ins_len (lt := lt) (key := key) (x := x) (l := r)
    split
    · simp only [List.length_cons]; omega
    · split <;> simp only [List.length_cons] <;> omega
theorem rm_len {κ α : Type} [DecidableEq κ] {key : α → κ} {k : κ} {l : List α} : (rm key k l).length ≤ l.length := List.length_filter_le _ _
structure T8.Few (T : T8) (n : Nat) : Prop where
  ex : T.ex.length ≤ n
  im : T.im.length ≤ n
  tb : T.tb.length ≤ n
theorem few_t0 : t0.Few 0 := ⟨Nat.le_refl _, Nat.le_refl _, Nat.le_refl _⟩
theorem T8.Few.mono {T : T8} {n m : Nat} (h : T.Few n) (hm : n ≤ m) : T.Few m := ⟨Nat.le_trans h.ex hm, Nat.le_trans h.im hm, Nat.le_trans h.tb hm⟩
theorem few_putI {T : T8} {n : Nat} (h : T.Few n) (i : Ic) : (T.putI i).Few (n + 1) := ⟨by have := h.ex; show T.ex.length ≤ _; omega, by have := h.im; have := ins_len (lt := ltS) (key := Ic.s) (x := i) (l := T.im); show (ins ltS Ic.s i T.im).length ≤ _; omega, by have := h.tb; show T.tb.length ≤ _; omega⟩
theorem few_bury {T : T8} {n : Nat} (h : T.Few n) (o : Int) (l : List Sp) : (T.bury o l).Few (n + 1) := ⟨by have := h.ex; show T.ex.length ≤ _; omega, by have := h.im; show T.im.length ≤ _; omega, by have := h.tb; have := ins_len (lt := ltI) (key := (Prod.fst : Tm → Int)) (x := (o, nar (uns (T.ft o) l))) (l := T.tb); show (ins ltI Prod.fst (o, nar (uns (T.ft o) l)) T.tb).length ≤ _; omega⟩
theorem few_settle {T : T8} {n : Nat} (h : T.Few n) (i : Ic) : (T.settle i).Few (n + 1) := by
  unfold T8.settle
  split
  · exact few_bury (T := { T with im := rm Ic.s i.s T.im }) ⟨h.ex, Nat.le_trans rm_len h.im, h.tb⟩ _ _
  · exact few_putI h i
theorem ite_of {p : Prop} [Decidable p] {α : Type} {P : α → Prop} {a b : α} (ha : P a) (hb : P b) : P (if p then a else b) := by split <;> assumption
theorem few_then {T : T8} {n : Nat} (h : T.Few n) (r : Rc) : (T.then' r).Few (n + 1) := by
  have e : ∀ x : Og, ({ T with ex := ins ltS Og.s x T.ex } : T8).Few (n + 1) := fun x => ⟨by have := h.ex; have := ins_len (lt := ltS) (key := Og.s) (x := x) (l := T.ex); show (ins ltS Og.s x T.ex).length ≤ _; omega, by have := h.im; show T.im.length ≤ _; omega, by have := h.tb; show T.tb.length ≤ _; omega⟩
  have h1 : T.Few (n + 1) := h.mono (by omega)
  have e4 : (match T.fe (sR r) with | some x => { T with ex := ins ltS Og.s { x with ended := true, how := r.how } T.ex } | none => T : T8).Few (n + 1) := by
    cases T.fe (sR r) with
    | some x => exact e _
    | none => exact h1
  unfold T8.then'
  exact ite_of (P := fun X : T8 => X.Few (n + 1)) ⟨h1.ex, h1.im, h1.tb⟩ (ite_of (P := fun X : T8 => X.Few (n + 1)) ⟨h1.ex, h1.im, h1.tb⟩ (ite_of (P := fun X : T8 => X.Few (n + 1)) ⟨(e _).ex, h1.im, h1.tb⟩ (ite_of (P := fun X : T8 => X.Few (n + 1)) e4
    (ite_of (P := fun X : T8 => X.Few (n + 1)) ⟨Nat.le_trans rm_len h1.ex, h1.im, h1.tb⟩ (ite_of (P := fun X : T8 => X.Few (n + 1)) (few_putI h _) (ite_of (P := fun X : T8 => X.Few (n + 1)) (few_putI h _) (ite_of (P := fun X : T8 => X.Few (n + 1)) (few_putI h _)
    (ite_of (P := fun X : T8 => X.Few (n + 1)) (few_settle h _) (ite_of (P := fun X : T8 => X.Few (n + 1)) (few_settle h _) (ite_of (P := fun X : T8 => X.Few (n + 1)) (few_bury h _ _) (few_putI h _)))))))))))
theorem few_app {T : T8} {n : Nat} (h : T.Few n) (r : Rc) : (T.app r).Few (n + 1) := by
  unfold T8.app
  split
  · exact few_then h r
  · exact h.mono (by omega)
/-! ## How long its snapshot is -/
def havs (l : List Ic) : Nat := (l.map (fun i => i.hv.length)).sum
theorem exs_len : ∀ l : List Og, (l.flatMap exR).length ≤ 2 * l.length
  | [] => by simp
  | x :: r => by
    have := exs_len r
    simp only [List.flatMap_cons, List.length_append, List.length_cons]
    have h : (exR x).length ≤ 2 := by unfold exR; split <;> simp
    omega
theorem im_len (i : Ic) : (imR i).length ≤ 2 + i.hv.length := by
  unfold imR
  split
  · simp only [List.length_cons, List.length_nil]; omega
  · split
    · simp only [List.length_cons, List.length_nil]; omega
    · simp only [List.length_append, List.length_map]
      have h1 : (if i.done = true then [rc0 7 i.s] else []).length ≤ 1 := by split <;> simp
      have h2 : (if i.shut = true then [rc0 10 i.s] else []).length ≤ 1 := by split <;> simp
      omega
theorem ims_len : ∀ l : List Ic, (l.flatMap imR).length ≤ 2 * l.length + havs l
  | [] => by simp [havs]
  | x :: r => by
    have := ims_len r
    have h := im_len x
    unfold havs at *
    simp only [List.flatMap_cons, List.length_append, List.length_cons, List.map_cons, List.sum_cons]
    omega
theorem snap_len (T : T8) : T.snap.length ≤ 2 + 2 * T.ex.length + 2 * T.im.length + T.tb.length + havs T.im := by
  unfold T8.snap
  split
  · simp
  · have h1 := exs_len T.ex
    have h2 := ims_len T.im
    have h3 : (if T.next ≠ nxt 1 T.ex then [{ rc0 2 (0, 0) with size := T.next }] else []).length ≤ 1 := by split <;> simp
    simp only [List.length_cons, List.length_append, List.length_map] at *
    omega
theorem havs_le {l : List Ic} (h : ∀ i ∈ l, i.hv.length ≤ 2000) : havs l ≤ 2000 * l.length := by
  unfold havs
  induction l with
  | nil => simp
  | cons x r ih =>
    have a := h x (by simp)
    have b := ih (fun i hi => h i (by simp [hi]))
    simp only [List.map_cons, List.sum_cons, List.length_cons] at *
    omega
end Go.Proofs.YtillgoegiplmkaaGreatDoor.B

namespace Go.Proofs.YtillgoegiplmkaaGreatDoor.B
open C
open Go.RowKit Go.Maps
set_option linter.unusedVariables false
set_option linter.unusedSimpArgs false

/-! ## What Snapshot makes: rows, and their lists -/
def tbl (R : List (Tm × Value)) : List Nat := (R.map Prod.snd).filterMap Value.ownBlock
theorem nodup_three {a b c : List Nat} {m : Nat} (h : (a ++ c).Nodup) (hb : b.Nodup) (h1 : ∀ g ∈ a ++ c, g < m) (h2 : ∀ g ∈ b, m ≤ g) : ((a ++ b) ++ c).Nodup := by
  obtain ⟨ha, hc, hac⟩ := List.nodup_append.mp h
  refine List.nodup_append.mpr ⟨List.nodup_append.mpr ⟨ha, hb, fun x hx y hy e => ?_⟩, hc, fun x hx y hy e => ?_⟩
  · have := h1 x (List.mem_append.mpr (.inl hx))
    have := h2 y hy
    omega
  · rcases List.mem_append.mp hx with q | q
    · exact hac x q y hy e
    · have := h1 y (List.mem_append.mpr (.inr hy))
      have := h2 x q
      omega
/-- What Snapshot's loops keep. -/
structure SnJ (w : World) (x : Nat) (B : Array Value) (vo vi vt : Value) (P : List (Og × Value)) (Q : List (Ic × Value × Value)) (R : List (Tm × Value)) (j : Nat) (L : List Rv) (v : Value) (W : World) : Prop where
  low : Below w.heap.size w W
  row : RrR W w.heap.size v L
  el : Els w.heap.size L W
  nd : (rbl L ++ tbl (R.drop j)).Nodup
  st : StR w.heap.size vo vi vt P Q R W
  bx : W.heap[x]? = some (.cells B 58)
section
variable {w : World} {x : Nat} {B : Array Value} {vo vi vt : Value} {P : List (Og × Value)} {Q : List (Ic × Value × Value)} {R : List (Tm × Value)} {j : Nat} {L : List Rv} {v : Value} {W : World}
theorem SnJ.below {W' : World} (h : SnJ w x B vo vi vt P Q R j L v W) (hb : Below W.heap.size W W') : SnJ w x B vo vi vt P Q R j L v W' :=
  ⟨h.low.trans (hb.mono h.low.size), own_at h.row (fun g hg => hb.block g (World.ownsRow.lt h.row g hg).2), h.el.below hb, h.nd, h.st.below hb, (hb.block _ (Array.getElem?_eq_some_iff.1 h.bx).1).trans h.bx⟩
theorem SnJ.push {w6 : World} (h : SnJ w x B vo vi vt P Q R j L v W) {S : List Rv} {v6 : Value} {i n : Nat} (hn : n = S.length) (hg : W.grownBy w6 v.ownBlock) (hown : w6.ownsRow w.heap.size 35 11 v6 (L.length + n) (L.flatMap rcc ++ S.flatMap rcc)) (hS : Els w.heap.size S W) (hnd : (rbl (L ++ S) ++ tbl (R.drop i)).Nodup) : SnJ w x B vo vi vt P Q R i (L ++ S) v6 w6 := by
  subst hn
  have hv := fun g (e : v.ownBlock = some g) => World.ownsRow.lt h.row g e
  have kb : ∀ g, g < W.heap.size → v.ownBlock ≠ some g → w6.heap[g]? = W.heap[g]? := fun g hgl hne => hg.block g hgl (fun e => hne e.symm)
  have hk : ∀ g, g < W.heap.size → (∀ cs, W.heap[g]? ≠ some (.cells cs 35 (0, 0))) → w6.heap[g]? = W.heap[g]? := fun g hgl hne => kb g hgl (fun e => by
    obtain ⟨c, hc⟩ := own_obj h.row e
    exact hne c hc)
  have k : ∀ {b m s : Nat} {e : TypeId} {u : Value} {xs : List Value}, W.ownsRow b e s u m xs → e ≠ 35 → w6.ownsRow b e s u m xs := fun hq h1 => own_at hq (fun g hg => kb g (World.ownsRow.lt hq g hg).2 (fun e => own_ne hq h.row h1 hg e))
  refine ⟨h.low.trans ⟨hg.os, hg.tape, hg.output, hg.size, fun g hgl => ?_⟩, ?_, ?_, hnd, ?_, ?_⟩
  · have hs := h.low.size
    exact kb g (by omega) (fun e => by have := (hv g e).1; omega)
  · unfold RrR
    rw [List.length_append, List.flatMap_append]
    exact hown
  · intro y hy
    rcases List.mem_append.mp hy with hy | hy
    · exact h.el.mono hk y hy
    · exact hS.mono hk y hy
  · exact ⟨k h.st.ro (by decide), k h.st.ri (by decide), k h.st.rt (by decide), fun p hp => k (h.st.po p hp) (by decide), fun q hq => ⟨k (h.st.pi q hq).1 (by decide), k (h.st.pi q hq).2 (by decide)⟩, fun r hr => k (h.st.pt r hr) (by decide), h.st.nd⟩
  · exact (kb _ (Array.getElem?_eq_some_iff.1 h.bx).1 (own_nb h.row h.bx (by decide))).trans h.bx
theorem tbl_lt (h : StR w.heap.size vo vi vt P Q R W) (j : Nat) : ∀ g ∈ tbl (R.drop j), w.heap.size ≤ g ∧ g < W.heap.size := fun g hg => by
  unfold tbl at hg
  obtain ⟨u, hu, e⟩ := List.mem_filterMap.mp hg
  obtain ⟨r, hr, rfl⟩ := List.mem_map.mp hu
  exact World.ownsRow.lt (h.pt r (List.mem_of_mem_drop hr)) g e
/-- The records of an import more: their lists are new. -/
theorem SnJ.fresh (h : SnJ w x B vo vi vt P Q R j L v W) {S : List Rv} {vs : Value} {W' : World} (hS : RJ W S vs W') : (rbl (L ++ S) ++ tbl (R.drop j)).Nodup := by
  rw [rbl_app]
  refine nodup_three h.nd hS.nd (m := W.heap.size) (fun g hg => ?_) (fun g hg => (rbl_lt hS.el g hg).1)
  rcases List.mem_append.mp hg with q | q
  · exact (rbl_lt h.el g q).2
  · exact (tbl_lt h.st j g q).2
def tbV (r : Tm × Value) : Rv := (tbR r.1, r.2, nilV)
/-- A tomb's record more: its list comes over. -/
theorem SnJ.over (h : SnJ w x B vo vi vt P Q R j L v W) {r : Tm × Value} (hr : R[j]? = some r) : (rbl (L ++ [tbV r]) ++ tbl (R.drop (j + 1))).Nodup := by
  have e : tbl (R.drop j) = (r.2.ownBlock).toList ++ tbl (R.drop (j + 1)) := by
    obtain ⟨hj, hx⟩ := List.getElem?_eq_some_iff.mp hr
    rw [List.drop_eq_getElem_cons hj, hx]
    unfold tbl
    cases hb : r.2.ownBlock <;> simp [List.filterMap_cons, hb]
  have e2 : rbl [tbV r] = (r.2.ownBlock).toList := by
    have hn : Value.ownBlock nilV = none := rfl
    unfold rbl tbV
    cases hb : r.2.ownBlock <;> simp [List.filterMap_cons, hb, hn]
  rw [rbl_app, e2, List.append_assoc, ← e]
  exact h.nd
theorem tbV_els (h : StR w.heap.size vo vi vt P Q R W) {r : Tm × Value} (hr : r ∈ R) : Els w.heap.size [tbV r] W := fun y hy => by
  simp only [List.mem_singleton] at hy
  subst hy
  exact ⟨h.pt r hr, World.ownsRow_nil _ _ _ _⟩
end

/-! ### How it begins -/
def btV (T : T8) : List Rv := if T.id = 0 then [] else [({ rc0 1 (T.id, 0) with size := T.boots }, nilV, nilV)]
theorem rbl_ex : ∀ P : List (Og × Value), rbl (P.flatMap exV) = (P.map Prod.snd).filterMap Value.ownBlock
  | [] => rfl
  | p :: r => by
    rw [List.flatMap_cons, rbl_app, rbl_ex r, List.map_cons]
    have : rbl (exV p) = (p.2.ownBlock).toList := by
      have hn : Value.ownBlock nilV = none := rfl
      unfold rbl exV
      cases p.1.ended <;> cases hb : p.2.ownBlock <;> simp [List.filterMap_cons, hb, hn]
    rw [this]
    cases hb : p.2.ownBlock <;> simp [List.filterMap_cons, hb]
theorem rbl_one (r : Rc) : rbl [(r, nilV, nilV)] = [] := rfl
theorem rbl_beg (T : T8) (P : List (Og × Value)) : rbl (btV T ++ xrs T.next P) = (P.map Prod.snd).filterMap Value.ownBlock := by
  unfold btV xrs
  rw [rbl_app, rbl_app, rbl_ex]
  have h0 : rbl [] = [] := rfl
  split <;> split <;> simp only [rbl_one, h0, List.append_nil, List.nil_append]
theorem nd_beg {T : T8} {P : List (Og × Value)} {Q : List (Ic × Value × Value)} {R : List (Tm × Value)} (h : (sbl P Q R).Nodup) : (rbl (btV T ++ xrs T.next P) ++ tbl (R.drop 0)).Nodup := by
  rw [rbl_beg, List.drop_zero]
  unfold tbl
  rw [← List.filterMap_append]
  unfold sbl at h
  refine h.sublist (List.Sublist.filterMap _ ?_)
  exact List.Sublist.append (List.Sublist.refl _) (List.sublist_append_right _ _)
theorem els_beg {lo : Nat} {T : T8} {P : List (Og × Value)} {W : World} (h : ∀ p ∈ P, ByO W lo p.2 p.1.data) : Els lo (btV T ++ xrs T.next P) W := fun y hy => by
  have nn : ∀ r : Rc, r.spans = [] → r.data = [] → y = (r, nilV, nilV) → SOwn W lo y.2.1 y.1.spans ∧ ByO W lo y.2.2 y.1.data := fun r h1 h2 e => by
    subst e
    simp only
    rw [h1, h2]
    exact ⟨SOwn.nil _ _, World.ownsRow_nil _ _ _ _⟩
  unfold btV xrs at hy
  rcases List.mem_append.mp hy with hy | hy
  · split at hy
    · cases hy
    · simp only [List.mem_singleton] at hy
      exact nn _ rfl rfl hy
  · rcases List.mem_append.mp hy with hy | hy
    · obtain ⟨p, hp, hy⟩ := List.mem_flatMap.mp hy
      unfold exV at hy
      rcases List.mem_cons.mp hy with e | hy
      · subst e
        exact ⟨SOwn.nil _ _, h p hp⟩
      · split at hy
        · simp only [List.mem_singleton] at hy
          exact nn _ rfl rfl hy
        · cases hy
    · split at hy
      · simp only [List.mem_singleton] at hy
        exact nn _ rfl rfl hy
      · cases hy
theorem fst_ex : ∀ P : List (Og × Value), (P.flatMap exV).map Prod.fst = (P.map Prod.fst).flatMap exR
  | [] => rfl
  | p :: r => by
    rw [List.flatMap_cons, List.map_append, fst_ex r, List.map_cons, List.flatMap_cons]
    congr 1
    unfold exV exR
    rw [List.map_cons]
    congr 1
    split <;> rfl
theorem fst_snap {T : T8} (hok : T.Ok) {P : List (Og × Value)} (hP : P.map Prod.fst = T.ex) {I : List Rv} (hI : I.map Prod.fst = T.im.flatMap imR) {R : List (Tm × Value)} (hR : R.map Prod.fst = T.tb) :
    ((btV T ++ xrs T.next P ++ I) ++ R.map tbV).map Prod.fst = T.snap := by
  have hr : (R.map tbV).map Prod.fst = T.tb.map tbR := by
    rw [← hR, List.map_map, List.map_map]
    rfl
  rw [List.map_append, List.map_append, List.map_append, hI, hr]
  unfold T8.snap btV xrs
  rw [List.map_append, fst_ex, hP]
  by_cases h0 : T.id = 0
  · rw [if_pos h0, if_pos h0]
    have := hok.none h0
    rw [this]
    simp [t0, nxt]
  · rw [if_neg h0, if_neg h0]
    by_cases h1 : T.next = nxt 1 T.ex
    · rw [if_neg (by simpa using h1), if_neg (by simpa using h1)]
      simp
    · rw [if_pos h1, if_pos h1]
      simp [nxr]
theorem beg_len (T : T8) (P : List (Og × Value)) : (btV T ++ xrs T.next P).length ≤ 2 + 2 * P.length := by
  have h1 : (btV T).length ≤ 1 := by unfold btV; split <;> simp
  have h2 : (P.flatMap exV).length ≤ 2 * P.length := by
    induction P with
    | nil => simp
    | cons p r ih =>
      have := exV_len p
      simp only [List.flatMap_cons, List.length_append, List.length_cons]
      omega
  unfold xrs
  rw [List.length_append, List.length_append]
  have h3 : (if T.next ≠ nxt 1 (P.map Prod.fst) then [(nxr T.next, nilV, nilV)] else []).length ≤ 1 := by split <;> simp
  omega
theorem one_beg (T : T8) (P : List (Og × Value)) (h : ∀ p ∈ P, p.2.oneCell' = true) : ∀ u ∈ (xrs T.next P).flatMap rcc, u.oneCell' = true := rcc_one (fun y hy => by
  unfold xrs at hy
  rcases List.mem_append.mp hy with hy | hy
  · obtain ⟨p, hp, hy⟩ := List.mem_flatMap.mp hy
    unfold exV at hy
    rcases List.mem_cons.mp hy with e | hy
    · subst e
      exact ⟨rfl, h p hp⟩
    · split at hy
      · simp only [List.mem_singleton] at hy
        subst hy
        exact ⟨rfl, rfl⟩
      · cases hy
  · split at hy
    · simp only [List.mem_singleton] at hy
      subst hy
      exact ⟨rfl, rfl⟩
    · cases hy)
theorem one_bt (T : T8) : ∀ u ∈ (btV T).flatMap rcc, u.oneCell' = true := rcc_one (fun y hy => by
  unfold btV at hy
  split at hy
  · cases hy
  · simp only [List.mem_singleton] at hy
    subst hy
    exact ⟨rfl, rfl⟩)
/-- An import's records, of an import that may be. -/
theorem importOf_ok {d : Int} {i : Ic} (hi : i.Ok d) {lo : Nat} {w : World} {au av : Option Addr} {nu nv cu cv : Nat} (hs : SOwn w lo (.slice au nu cu) i.hv) (hd : ByO w lo (.slice av nv cv) i.data) :
    Calls Tryz.prog 53 #[iV i (.slice au nu cu) (.slice av nv cv)] w (ImP i w) := by
  cases hg : i.gone with
  | true => exact importOf_gone i au av nu nv cu cv w hg
  | false =>
    cases hh : i.heard with
    | true => exact importOf_heard i au av nu nv cu cv w hg hh
    | false =>
      have hnu : i.hv.length = nu := by
        obtain ⟨_, ⟨q, q'⟩ | ⟨g', cap', cur, q, _⟩⟩ := hs
        · simp only [Value.slice.injEq] at q; omega
        · simp only [Value.slice.injEq] at q; omega
      have hnv : i.data.length = nv ∧ nv ≤ cv ∧ cv ≤ maxLen := by
        obtain ⟨_, ⟨q, q'⟩ | ⟨g', cap', cur, q, _, _, q2, q3, _⟩⟩ := hd
        · simp only [Value.slice.injEq] at q; unfold maxLen; omega
        · simp only [Value.slice.injEq] at q; omega
      have hdt := hi.dat
      rw [if_neg (by rw [hh]; simp)] at hdt
      have hmo := hi.most
      have hlp := lst_pos hi.rt (Int.le_refl 0)
      have hb : w.ownsRow lo 5 1 (.slice av nv cv) nv (i.data.map (Value.int .u8)) := by rw [← hnv.1]; rw [← hnv.1] at hd; exact hd
      refine importOf_any i au av nu nv cu cv w hnu (SOwn.spa hs) hnv.1 (own_lies hb).1 hnv.2.1 (by have := hnv.2.2; unfold maxLen at this; omega) (by omega) (by rw [← hnu]; exact hi.few) (fun s hsm => ?_)
      have := hi.rt.mem s hsm
      have := lst_top hi.rt s hsm
      exact ⟨by omega, by omega, by omega⟩
end Go.Proofs.YtillgoegiplmkaaGreatDoor.B
