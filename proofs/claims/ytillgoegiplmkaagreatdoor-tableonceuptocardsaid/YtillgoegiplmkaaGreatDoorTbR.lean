import Derived.Test.YtillgoegiplmkaaGreatDoorTbT
namespace Go.Proofs.YtillgoegiplmkaaGreatDoor.B
open C
set_option linter.unusedVariables false
set_option linter.unusedSimpArgs false

/-! ## A table's snapshot comes to the table: boots, exports, tombs -/
/-- All of a row can follow, and comes to that. -/
def Ld : T8 → List Rc → T8 → Prop
  | T, [], T' => T = T'
  | T, r :: l, T' => T.can r = 0 ∧ Ld (T.then' r) l T'
theorem Ld.then : ∀ {a b : List Rc} {T T1 T2 : T8}, Ld T a T1 → Ld T1 b T2 → Ld T (a ++ b) T2
  | [], _, _, _, _, h, h' => by cases h; exact h'
  | r :: a, b, T, T1, T2, h, h' => ⟨h.1, Ld.then h.2 h'⟩
theorem Ld.ld : ∀ {l : List Rc} {T T' : T8} {n : Int}, Ld T l T' → ld T n l = (some T', 0, 0)
  | [], _, _, _, h => by cases h; rfl
  | r :: l, T, T', n, h => by rw [B.ld, if_pos h.1]; exact Ld.ld h.2
theorem can_ok {T : T8} {r : Rc} (h1 : mayB6 r = true) (h2 : T.folw r = true) (h3 : T.fits r = true) : T.can r = 0 := by
  unfold T8.can; rw [h1, h2, h3]; rfl
theorem fits_no {T : T8} {r : Rc} (h : ¬ r.kind = 6) : T.fits r = true := by unfold T8.fits; rw [if_neg h]

def opR (x : Og) : Rc := { rc0 3 x.s with peer := x.peer, srv := x.srv, red := x.red, size := x.size, data := x.data }
def enR (x : Og) : Rc := { rc0 4 x.s with how := x.how }
theorem exR_eq (x : Og) : exR x = opR x :: (if x.ended = true then [enR x] else []) := rfl
def btR (d b : Int) : Rc := { rc0 1 (d, 0) with size := b }
def nxR (n : Int) : Rc := { rc0 2 (0, 0) with size := n }
/-- The records of a snapshot are such as may be. -/
structure MY : Prop where
  m1 : ∀ d b : Int, 1 ≤ d → d ≤ mxN → 1 ≤ b → b ≤ 1073741824 → mayB6 (btR d b) = true
  m2 : ∀ n : Int, 1 ≤ n → n ≤ mxN → mayB6 (nxR n) = true
  m3 : ∀ (d n : Int) (x : Og), 1 ≤ d → d ≤ mxN → x.Ok d n → mayB6 (opR x) = true
  m4 : ∀ (d n : Int) (x : Og), 1 ≤ d → d ≤ mxN → x.Ok d n → mayB6 (enR x) = true
  m6 : ∀ (d : Int) (i : Ic) (h : Sp), i.Ok d → i.gone = false → i.heard = false → h ∈ i.hv → mayB6 (rdR8 i h) = true
  m7 : ∀ (d : Int) (i : Ic), i.Ok d → mayB6 (rc0 7 i.s) = true
  m8 : ∀ (d : Int) (i : Ic), i.Ok d → mayB6 { rc0 8 i.s with how := i.how } = true
  m10 : ∀ (d : Int) (i : Ic), i.Ok d → mayB6 (rc0 10 i.s) = true
  m12 : ∀ (d : Int) (i : Ic), i.Ok d → i.heard = true → mayB6 { rc0 12 i.s with srv := i.srv, red := i.red, size := i.size } = true
  m11 : ∀ x : Tm, 1 ≤ x.1 → x.1 ≤ mxN → x.2 ≠ [] → x.2.length ≤ 500 → Rt 1 x.2 → mayB6 (tbR x) = true

theorem ld_boot (M : MY) {d b : Int} (h1 : 1 ≤ d) (h2 : d ≤ mxN) (h3 : 1 ≤ b) (h4 : b ≤ 1073741824) : Ld t0 [btR d b] ⟨d, b, 1, [], [], []⟩ :=
  ⟨can_ok (M.m1 d b h1 h2 h3 h4) (by simp [T8.folw, btR, rc0, t0]) (fits_no (by simp [btR, rc0])), by simp [Ld, T8.then', btR, rc0, t0]⟩

theorem ld_ex (M : MY) {d b n N : Int} {pre : List Og} {x : Og} (h1 : 1 ≤ d) (h2 : d ≤ mxN) (hx : x.Ok d N) (hn : n ≤ x.num) (hp : Srt ltS Og.s (pre ++ [x])) :
    Ld ⟨d, b, n, pre, [], []⟩ (exR x) ⟨d, b, x.num + 1, pre ++ [x], [], []⟩ := by
  have d0 : d ≠ 0 := by omega
  have hlast : ∀ y ∈ pre, ltS y.s x.s = true := fun y hy => (List.pairwise_append.mp hp).2.2 y hy x (by simp)
  let x' : Og := ⟨x.org, x.num, x.peer, x.srv, x.red, x.size, x.data, false, 0⟩
  have e1 : (⟨d, b, n, pre, [], []⟩ : T8).then' (opR x) = ⟨d, b, x.num + 1, pre ++ [x'], [], []⟩ := by
    show ({ ex := ins ltS Og.s x' pre, id := d, boots := b, next := x.num + 1, im := [], tb := [] } : T8) = _
    rw [ins_last (x := x') (fun y hy => hlast y hy)]
  rw [exR_eq]
  refine ⟨can_ok (M.m3 d N x h1 h2 hx) ?_ (fits_no (by simp [opR, rc0])), ?_⟩
  · have hr := hx.peer.2.2
    simp [T8.folw, opR, rc0, Og.s, d0, hx.org, hn, hr]
  rw [e1]
  cases he : x.ended with
  | false =>
    have : x' = x := by
      have hw := hx.was he
      show (⟨x.org, x.num, x.peer, x.srv, x.red, x.size, x.data, false, 0⟩ : Og) = x
      rw [← he, ← hw]
    rw [this]
    simp [Ld]
  | true =>
    have hs' : Srt ltS Og.s (pre ++ [x']) := List.pairwise_append.mpr ⟨(List.pairwise_append.mp hp).1, by simp, fun a ha c hc => by simp at hc; subst hc; exact hlast a ha⟩
    have hfe : (⟨d, b, x.num + 1, pre ++ [x'], [], []⟩ : T8).fe (sR (enR x)) = some x' := by
      show fnd Og.s x'.s (pre ++ [x']) = some x'
      exact fnd_mem ordS hs' (by simp)
    rw [if_pos rfl]
    refine ⟨can_ok (M.m4 d N x h1 h2 hx) ?_ (fits_no (by simp [enR, rc0])), ?_⟩
    · unfold T8.folw
      rw [if_neg (by simp [enR, rc0]), if_neg d0, if_neg (by simp [enR, rc0]), if_neg (by simp [enR, rc0]), if_pos (by simp [enR, rc0]), hfe]
      rfl
    · show (⟨d, b, x.num + 1, pre ++ [x'], [], []⟩ : T8).then' (enR x) = _
      unfold T8.then'
      rw [if_neg (by simp [enR, rc0]), if_neg (by simp [enR, rc0]), if_neg (by simp [enR, rc0]), if_pos (by simp [enR, rc0]), hfe]
      show ({ ex := ins ltS Og.s { x' with ended := true, how := x.how } (pre ++ [x']), id := d, boots := b, next := x.num + 1, im := [], tb := [] } : T8) = _
      rw [ins_at ordS (x := { x' with ended := true, how := x.how }) (y := x') (a := pre) (b := []) hs' rfl]
      have : ({ x' with ended := true, how := x.how } : Og) = x := by
        show (⟨x.org, x.num, x.peer, x.srv, x.red, x.size, x.data, true, x.how⟩ : Og) = x
        rw [← he]
      rw [this]
theorem ld_exs (M : MY) {d b N : Int} (h1 : 1 ≤ d) (h2 : d ≤ mxN) : ∀ {suf pre : List Og} {n : Int}, (∀ x ∈ pre ++ suf, x.Ok d N) → Srt ltS Og.s (pre ++ suf) → (∀ x ∈ suf, n ≤ x.num) →
    Ld ⟨d, b, n, pre, [], []⟩ (suf.flatMap exR) ⟨d, b, nxt n suf, pre ++ suf, [], []⟩
  | [], pre, n, _, _, _ => by simp [Ld, nxt]
  | x :: suf, pre, n, hx, hs, hn => by
      have e : pre ++ x :: suf = (pre ++ [x]) ++ suf := by simp
      rw [e] at hx hs ⊢
      rw [List.flatMap_cons]
      refine (ld_ex M h1 h2 (hx x (by simp)) (hn x (by simp)) (List.pairwise_append.mp hs).1).then ?_
      refine ld_exs M h1 h2 (n := x.num + 1) hx hs (fun y hy => ?_)
      have q : ltS x.s y.s = true := (List.pairwise_append.mp hs).2.2 x (by simp) y hy
      have o1 := (hx x (by simp)).org
      have o2 := (hx y (by simp [hy])).org
      have q' := of_decide_eq_true q
      change x.org < y.org ∨ x.org = y.org ∧ x.num < y.num at q'
      rw [o1, o2] at q'
      show x.num + 1 ≤ y.num
      omega
theorem nxt_le : ∀ {l : List Og} {n N d : Int}, (∀ x ∈ l, x.Ok d N) → n ≤ N → nxt n l ≤ N
  | [], n, N, d, _, h => h
  | x :: r, n, N, d, hx, h => by
      have := (hx x (by simp)).num.2.1
      rw [nxt]
      exact nxt_le (l := r) (n := x.num + 1) (d := d) (fun y hy => hx y (by simp [hy])) (by omega)
theorem ld_nx (M : MY) {d b n N : Int} {ex : List Og} (h1 : 1 ≤ d) (hN : 1 ≤ N ∧ N ≤ mxN) (hn : n ≤ N) : Ld ⟨d, b, n, ex, [], []⟩ (if N ≠ n then [nxR N] else []) ⟨d, b, N, ex, [], []⟩ := by
  split
  · have d0 : d ≠ 0 := by omega
    refine ⟨can_ok (M.m2 N hN.1 hN.2) (by simp [T8.folw, nxR, rc0, d0, hn]) (fits_no (by simp [nxR, rc0])), ?_⟩
    simp [Ld, T8.then', nxR, rc0]
  · rename_i c
    have : N = n := by omega
    subst this
    simp [Ld]
theorem ld_tbs (M : MY) {d b n : Int} {ex : List Og} {im : List Ic} (h1 : 1 ≤ d) : ∀ {suf pre : List Tm}, (∀ x ∈ pre ++ suf, 1 ≤ x.1 ∧ x.1 ≤ mxN ∧ x.1 ≠ d ∧ x.2 ≠ [] ∧ x.2.length ≤ 500 ∧ Rt 1 x.2) → Srt ltI (Prod.fst : Tm → Int) (pre ++ suf) →
    Ld ⟨d, b, n, ex, im, pre⟩ (suf.map tbR) ⟨d, b, n, ex, im, pre ++ suf⟩
  | [], pre, _, _ => by simp [Ld]
  | x :: suf, pre, hx, hs => by
      have d0 : d ≠ 0 := by omega
      have hlast : ∀ y ∈ pre, ltI y.1 x.1 = true := fun y hy => (List.pairwise_append.mp hs).2.2 y hy x (by simp)
      obtain ⟨a1, a2, a3, a4, a5, a6⟩ := hx x (by simp)
      have hft : (⟨d, b, n, ex, im, pre⟩ : T8).ft x.1 = [] := by
        unfold T8.ft
        rw [fnd_none.mpr (fun y hy => ordI.ne (hlast y hy))]
      have e1 : (⟨d, b, n, ex, im, pre⟩ : T8).then' (tbR x) = ⟨d, b, n, ex, im, pre ++ [x]⟩ := by
        show (⟨d, b, n, ex, im, pre⟩ : T8).bury x.1 x.2 = _
        unfold T8.bury
        rw [hft, uns_nil (a6.mono (by omega)), nar_same a5]
        show ({ tb := ins ltI Prod.fst x pre, id := d, boots := b, next := n, ex := ex, im := im } : T8) = _
        rw [ins_last (fun y hy => hlast y hy)]
      have e : pre ++ x :: suf = (pre ++ [x]) ++ suf := by simp
      rw [e] at hx hs ⊢
      refine ⟨can_ok (M.m11 x a1 a2 a4 a5 a6) (by simp [T8.folw, tbR, rc0, d0, a3]) (fits_no (by simp [tbR, rc0])), ?_⟩
      rw [e1]
      exact ld_tbs M h1 hx hs
end Go.Proofs.YtillgoegiplmkaaGreatDoor.B

namespace Go.Proofs.YtillgoegiplmkaaGreatDoor.B
open C
set_option linter.unusedVariables false
set_option linter.unusedSimpArgs false

/-! ## An import's bytes, span by span -/
theorem lst_snoc (a : List Sp) (h : Sp) : lst (a ++ [h]) = h.2 := by simp [lst]
theorem behind_lst {a c : List Sp} {lo : Int} (h : Rt lo (a ++ c)) (h0 : 0 ≤ lo) : ∀ s ∈ c, lst a ≤ s.1 := fun s hs => by
  induction a generalizing lo with
  | nil => have := (h.mem s hs).1; simp only [lst, List.getLast?_nil]; omega
  | cons b a ih =>
    obtain ⟨a1, a2, a3, a4⟩ := h
    rw [lst_cons]
    split
    · rename_i e; subst e; have := (Rt.mem a4 s (by simp [hs])).1; omega
    · exact ih a4 (by omega)
theorem has_part {a c : List Sp} (h : Rt 0 (a ++ c)) {j : Int} (hj : j < lst a) : has (a ++ c) j = has a j := by
  rw [has_append]
  have : has c j = false := by
    cases e : has c j with
    | false => rfl
    | true => obtain ⟨s, hs, s1, s2⟩ := has_mem.mp e; have := behind_lst h (by omega) s hs; omega
  rw [this, Bool.or_false]
theorem getD_take (l : List Int) (n j : Nat) : (l.take n).getD j 0 = if j < n then l.getD j 0 else 0 := by
  simp only [List.getD_eq_getElem?_getD, List.getElem?_take]
  split <;> simp
theorem getD_drop (l : List Int) (n j : Nat) : (l.drop n).getD j 0 = l.getD (n + j) 0 := by
  simp only [List.getD_eq_getElem?_getD, List.getElem?_drop]
theorem list_same {l m : List Int} (h : l.length = m.length) (hj : ∀ j, l.getD j 0 = m.getD j 0) : l = m := by
  refine List.ext_getElem h (fun j h1 h2 => ?_)
  have := hj j
  simpa [List.getD_eq_getElem?_getD, List.getElem?_eq_getElem h1, List.getElem?_eq_getElem h2] using this

def prt8 (i : Ic) (a : List Sp) : Ic := ⟨i.org, i.num, i.srv, i.red, i.size, a, i.data.take (lst a).toNat, false, false, false, false, 0⟩
/-- So much of an import, as far as it lies in memory. -/
theorem prt_rdy {d : Int} {i : Ic} {a c : List Sp} (h : i.Ok d) (hh : i.heard = false) (e : i.hv = a ++ c) : Rdy d (prt8 i a) := by
  have hrt : Rt 0 (a ++ c) := e ▸ h.rt
  have hl : lst a ≤ lst (a ++ c) := by
    cases c with
    | nil => simp
    | cons s c =>
      have := behind_lst hrt (by omega) s (by simp)
      have := lst_top hrt s (by simp)
      have := hrt.mem s (by simp)
      omega
  have hp := lst_pos hrt.cut (by omega)
  have hd := h.dat
  rw [if_neg (by simp [hh]), e] at hd
  have hmo := h.most
  rw [e] at hmo
  have hfew := h.few
  rw [e] at hfew
  refine ⟨h.org, h.num, rfl, ⟨rfl, rfl, rfl, rfl⟩, hrt.cut, ?_, ?_, ?_, ?_, ?_⟩
  · show a.length ≤ 2000; simp only [List.length_append] at hfew; omega
  · show lst a ≤ 65536; omega
  · show (i.data.take (lst a).toNat).length = (lst a).toNat; rw [List.length_take]; omega
  · exact fun z hz => h.byt z (List.mem_of_mem_take hz)
  · intro j hj
    show (i.data.take (lst a).toNat).getD j 0 = 0
    rw [getD_take]
    split
    · rename_i c1
      exact h.nil j (by rw [e, has_part hrt (by omega)]; exact hj)
    · rfl
theorem rd_data {i : Ic} {s : Sp} (h1 : 0 ≤ s.1) (h2 : s.1 < s.2) (h3 : s.2 ≤ (i.data.length : Int)) : plc (rdR8 i s) = s ∧ ((rdR8 i s).data.length : Int) = s.2 - s.1 := by
  have e : ((rdR8 i s).data.length : Int) = s.2 - s.1 := by
    show (((i.data.drop s.1.toNat).take (s.2 - s.1).toNat).length : Int) = s.2 - s.1
    rw [List.length_take, List.length_drop]; omega
  refine ⟨?_, e⟩
  show ((s.1, s.1 + ((rdR8 i s).data.length : Int)) : Sp) = s
  rw [e]
  exact Prod.ext rfl (by simp only; omega)
theorem laid_prt {d : Int} {i b : Ic} {a c : List Sp} {s : Sp} (h : i.Ok d) (hh : i.heard = false) (e : i.hv = a ++ s :: c) (hb : Rdy d b) (b1 : b.hv = a) (b2 : b.data = i.data.take (lst a).toNat) :
    laid b (rdR8 i s) = i.data.take s.2.toNat ∧ un b.hv (plc (rdR8 i s)) = a ++ [s] := by
  have hrt : Rt 0 (a ++ s :: c) := e ▸ h.rt
  have hd := h.dat
  rw [if_neg (by simp [hh])] at hd
  have hs := hrt.mem s (by simp)
  have ht := lst_top hrt s (by simp)
  have hmo := h.most
  rw [e] at hd hmo
  have hbl := behind_lst hrt (by omega) s (by simp)
  have hlp := lst_pos hrt.cut (by omega)
  obtain ⟨p1, p2⟩ := rd_data (i := i) (s := s) hs.1 hs.2.1 (by omega)
  have hsn : ∀ t ∈ a, t.2 < s.1 := by
    have e2 : a ++ s :: c = (a ++ [s]) ++ c := by simp
    rw [e2] at hrt
    exact (Rt.snoc.mp hrt.cut).2.1
  refine ⟨?_, by rw [p1, b1]; exact un_behind hsn⟩
  have hm : may4 (rdR8 i s).off (rdR8 i s).data := ⟨by omega, by omega, hs.1, by rw [p2]; show s.1 + (s.2 - s.1) ≤ 65536; omega⟩
  have hl := tk_len hb.bf rfl hm
  have ho : (rdR8 i s).off = s.1 := rfl
  rw [laid_tk]
  refine list_same ?_ (fun j => ?_)
  · rw [hl, b2, List.length_take, List.length_take, p2, ho]; omega
  · rw [tk_get hb.bf rfl hm, getD_take, p2, ho]
    simp only [b1, b2]
    rw [getD_take]
    by_cases c1 : s.1 ≤ j ∧ (j : Int) < s.1 + (s.2 - s.1)
    · have n1 : has a j = false := by
        cases q : has a j with
        | false => rfl
        | true => obtain ⟨t, ht1, t1, t2⟩ := has_mem.mp q; have := hsn t ht1; omega
      rw [if_pos ⟨c1, n1⟩, if_pos (by omega)]
      show (((i.data.drop s.1.toNat).take (s.2 - s.1).toNat)).getD ((j : Int) - s.1).toNat 0 = _
      rw [getD_take, if_pos (by omega), getD_drop]
      congr 1
      omega
    · rw [if_neg (fun q => c1 q.1)]
      by_cases c2 : j < (lst a).toNat
      · rw [if_pos c2, if_pos (by omega)]
      · rw [if_neg c2]
        split
        · rename_i c3
          symm
          refine h.nil j ?_
          rw [e]
          cases q : has (a ++ s :: c) j with
          | false => rfl
          | true =>
            rw [has_append, Bool.or_eq_true, has_cons] at q
            rcases q with q | q | q
            · obtain ⟨t, ht1, t1, t2⟩ := has_mem.mp q; have := lst_top hrt.cut t ht1; omega
            · omega
            · obtain ⟨t, ht1, t1, t2⟩ := has_mem.mp q
              obtain ⟨lo, -, r2⟩ := hrt.rest
              have := (r2.2.2.2.mem t ht1).1
              omega
        · rfl
end Go.Proofs.YtillgoegiplmkaaGreatDoor.B

namespace Go.Proofs.YtillgoegiplmkaaGreatDoor.B
open C
set_option linter.unusedVariables false
set_option linter.unusedSimpArgs false

/-! ## An import's records come to the import -/
theorem srt_swap {pre : List Ic} {i j : Ic} (h : Srt ltS Ic.s (pre ++ [i])) (e : j.s = i.s) : Srt ltS Ic.s (pre ++ [j]) :=
  List.pairwise_append.mpr ⟨(List.pairwise_append.mp h).1, by simp, fun a ha c hc => by
    simp at hc; subst hc; rw [e]; exact (List.pairwise_append.mp h).2.2 a ha i (by simp)⟩
theorem beg_new {d b n : Int} {ex : List Og} {pre : List Ic} {i : Ic} (hp : Srt ltS Ic.s (pre ++ [i])) (hd : i.org ≠ d) :
    (⟨d, b, n, ex, pre, []⟩ : T8).beg i.s = true ∧ (⟨d, b, n, ex, pre, []⟩ : T8).at i.s = emp i.s := by
  have hf : (⟨d, b, n, ex, pre, []⟩ : T8).fi i.s = none := fnd_none.mpr (fun y hy => ordS.ne ((List.pairwise_append.mp hp).2.2 y hy i (by simp)))
  refine ⟨?_, ?_⟩
  · unfold T8.beg T8.closed
    rw [hf]
    have h2 : i.s.1 ≠ d := hd
    simp [T8.ft, fnd, has, h2]
  · unfold T8.at; rw [hf]
theorem put_last {d b n : Int} {ex : List Og} {pre : List Ic} {i : Ic} (hp : Srt ltS Ic.s (pre ++ [i])) : (⟨d, b, n, ex, pre, []⟩ : T8).putI i = ⟨d, b, n, ex, pre ++ [i], []⟩ := by
  unfold T8.putI
  show ({ im := ins ltS Ic.s i pre, id := d, boots := b, next := n, ex := ex, tb := [] } : T8) = _
  rw [ins_last (x := i) (fun y hy => (List.pairwise_append.mp hp).2.2 y hy i (by simp))]
theorem put_over {d b n : Int} {ex : List Og} {pre : List Ic} {i j : Ic} (hp : Srt ltS Ic.s (pre ++ [j])) (e : j.s = i.s) : (⟨d, b, n, ex, pre ++ [j], []⟩ : T8).putI i = ⟨d, b, n, ex, pre ++ [i], []⟩ := by
  unfold T8.putI
  show ({ im := ins ltS Ic.s i (pre ++ [j]), id := d, boots := b, next := n, ex := ex, tb := [] } : T8) = _
  rw [ins_at ordS (x := i) (y := j) (a := pre) (b := []) hp e]
theorem at_last {d b n : Int} {ex : List Og} {pre : List Ic} {j : Ic} (hp : Srt ltS Ic.s (pre ++ [j])) : (⟨d, b, n, ex, pre ++ [j], []⟩ : T8).fi j.s = some j ∧ (⟨d, b, n, ex, pre ++ [j], []⟩ : T8).at j.s = j := by
  have hf : (⟨d, b, n, ex, pre ++ [j], []⟩ : T8).fi j.s = some j := fnd_mem ordS hp (by simp)
  exact ⟨hf, by unfold T8.at; rw [hf]⟩

theorem ld_red1 (M : MY) {d b n : Int} {ex : List Og} {pre : List Ic} {i : Ic} {s : Sp} {c : List Sp} (h1 : 1 ≤ d) (h : i.Ok d) (hg : i.gone = false) (hh : i.heard = false) (e : i.hv = s :: c) (hp : Srt ltS Ic.s (pre ++ [i])) :
    Ld ⟨d, b, n, ex, pre, []⟩ [rdR8 i s] ⟨d, b, n, ex, pre ++ [prt8 i [s]], []⟩ := by
  have d0 : d ≠ 0 := by omega
  obtain ⟨b1, b2⟩ := beg_new (d := d) (b := b) (n := n) (ex := ex) hp h.org.2.2
  have hr : Rdy d (emp i.s) := rdy_emp h.org h.num
  obtain ⟨l1, l2⟩ := laid_prt (a := []) (b := emp i.s) h hh e hr rfl (by simp [emp, lst])
  have hs : sR (rdR8 i s) = i.s := rfl
  refine ⟨can_ok (M.m6 d i s h hg hh (by simp [e])) ?_ ?_, ?_⟩
  · unfold T8.folw
    rw [if_neg (by simp [rdR8, rc0]), if_neg d0, if_neg (by simp [rdR8, rc0]), if_neg (by simp [rdR8, rc0]), if_neg (by simp [rdR8, rc0]), if_neg (by simp [rdR8, rc0]), if_pos (by simp [rdR8, rc0]), hs, b1]
    rfl
  · unfold T8.fits
    rw [if_pos (by simp [rdR8, rc0]), hs, b2, l2]
    simp
  · show (⟨d, b, n, ex, pre, []⟩ : T8).then' (rdR8 i s) = _
    unfold T8.then'
    rw [if_neg (by simp [rdR8, rc0]), if_neg (by simp [rdR8, rc0]), if_neg (by simp [rdR8, rc0]), if_neg (by simp [rdR8, rc0]), if_neg (by simp [rdR8, rc0]), if_pos (by simp [rdR8, rc0]), hs, b2, l1, l2]
    exact put_last (i := prt8 i [s]) (srt_swap hp rfl)
theorem ld_red (M : MY) {d b n : Int} {ex : List Og} {pre : List Ic} {i : Ic} {s : Sp} {a c : List Sp} (h1 : 1 ≤ d) (h : i.Ok d) (hg : i.gone = false) (hh : i.heard = false) (e : i.hv = a ++ s :: c) (hp : Srt ltS Ic.s (pre ++ [i])) :
    Ld ⟨d, b, n, ex, pre ++ [prt8 i a], []⟩ [rdR8 i s] ⟨d, b, n, ex, pre ++ [prt8 i (a ++ [s])], []⟩ := by
  have d0 : d ≠ 0 := by omega
  have hp' := srt_swap (j := prt8 i a) hp rfl
  obtain ⟨b1, b2⟩ := at_last (d := d) (b := b) (n := n) (ex := ex) hp'
  have hr : Rdy d (prt8 i a) := prt_rdy h hh e
  obtain ⟨l1, l2⟩ := laid_prt (b := prt8 i a) h hh e hr rfl rfl
  have hs : sR (rdR8 i s) = (prt8 i a).s := rfl
  have hd := h.dat
  rw [if_neg (by simp [hh])] at hd
  have hlp := lst_pos h.rt (by omega)
  have hlen : (prt8 i a).data.length ≤ i.data.length := by show (i.data.take (lst a).toNat).length ≤ _; rw [List.length_take]; omega
  refine ⟨can_ok (M.m6 d i s h hg hh (by simp [e])) ?_ ?_, ?_⟩
  · unfold T8.folw T8.und
    rw [if_neg (by simp [rdR8, rc0]), if_neg d0, if_neg (by simp [rdR8, rc0]), if_neg (by simp [rdR8, rc0]), if_neg (by simp [rdR8, rc0]), if_neg (by simp [rdR8, rc0]), if_pos (by simp [rdR8, rc0]), hs, b1, b2]
    have a1 : agr (prt8 i a).red (rdR8 i s).red (prt8 i a).data.length = true := by
      simp only [agr, Bool.and_eq_true, Bool.or_eq_true, beq_iff_eq, decide_eq_true_eq]
      refine ⟨.inr rfl, ?_⟩
      show i.red = 0 ∨ _ ≤ i.red
      have := h.red; omega
    have a2 : agr (prt8 i a).size (rdR8 i s).size (prt8 i a).data.length = true := by
      simp only [agr, Bool.and_eq_true, Bool.or_eq_true, beq_iff_eq, decide_eq_true_eq]
      refine ⟨.inr rfl, ?_⟩
      show i.size = 0 ∨ _ ≤ i.size
      have := h.size; omega
    rw [a1, a2]
    simp [prt8, rdR8, rc0]
  · unfold T8.fits
    rw [if_pos (by simp [rdR8, rc0]), hs, b2, l2]
    have := h.few
    rw [e] at this
    simp only [List.length_append, List.length_cons, List.length_nil, decide_eq_true_eq] at this ⊢
    omega
  · show (⟨d, b, n, ex, pre ++ [prt8 i a], []⟩ : T8).then' (rdR8 i s) = _
    unfold T8.then'
    rw [if_neg (by simp [rdR8, rc0]), if_neg (by simp [rdR8, rc0]), if_neg (by simp [rdR8, rc0]), if_neg (by simp [rdR8, rc0]), if_neg (by simp [rdR8, rc0]), if_pos (by simp [rdR8, rc0]), hs, b2, l1, l2]
    have hx : ({ prt8 i a with srv := (rdR8 i s).srv, red := (rdR8 i s).red, size := (rdR8 i s).size, data := i.data.take s.2.toNat, hv := a ++ [s] } : Ic) = prt8 i (a ++ [s]) := by
      unfold prt8
      rw [lst_snoc]
      rfl
    rw [hx]
    exact put_over (i := prt8 i (a ++ [s])) hp' rfl
theorem ld_reds (M : MY) {d b n : Int} {ex : List Og} {pre : List Ic} {i : Ic} (h1 : 1 ≤ d) (h : i.Ok d) (hg : i.gone = false) (hh : i.heard = false) (hp : Srt ltS Ic.s (pre ++ [i])) : ∀ {c a : List Sp}, i.hv = a ++ c →
    Ld ⟨d, b, n, ex, pre ++ [prt8 i a], []⟩ (c.map (rdR8 i)) ⟨d, b, n, ex, pre ++ [prt8 i i.hv], []⟩
  | [], a, e => by rw [e]; simp [Ld]
  | s :: c, a, e => by
      have q := ld_red M (b := b) (n := n) (ex := ex) h1 h hg hh e hp
      exact Ld.then (a := [rdR8 i s]) q (ld_reds M h1 h hg hh hp (a := a ++ [s]) (by rw [e]; simp))
end Go.Proofs.YtillgoegiplmkaaGreatDoor.B
