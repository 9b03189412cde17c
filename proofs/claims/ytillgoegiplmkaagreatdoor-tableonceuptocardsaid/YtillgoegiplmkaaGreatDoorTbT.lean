import Derived.Test.YtillgoegiplmkaaGreatDoorClmMath
import Derived.Test.YtillgoegiplmkaaGreatDoorBfMath
import Derived.Test.YtillgoegiplmkaaGreatDoorRcSui
namespace Go.Proofs.YtillgoegiplmkaaGreatDoor.B
open C
set_option linter.unusedVariables false
set_option linter.unusedSimpArgs false

/-! ## WHAT A TABLE IS: exports, imports, tombs, each in their order -/
/-- An export. -/
structure Og where
  org : Int
  num : Int
  peer : Int
  srv : Int
  red : Int
  size : Int
  data : List Int
  ended : Bool
  how : Int
def Og.s (x : Og) : Int × Int := (x.org, x.num)
/-- An import. -/
structure Ic where
  org : Int
  num : Int
  srv : Int
  red : Int
  size : Int
  hv : List Sp
  data : List Int
  done : Bool
  gone : Bool
  heard : Bool
  shut : Bool
  how : Int
def Ic.s (x : Ic) : Int × Int := (x.org, x.num)
abbrev Tm := Int × List Sp
structure T8 where
  id : Int
  boots : Int
  next : Int
  ex : List Og
  im : List Ic
  tb : List Tm
def t0 : T8 := ⟨0, 0, 1, [], [], []⟩

def sR (r : Rc) : Int × Int := (r.org, r.num)
def plc (r : Rc) : Sp := (r.off, r.off + (r.data.length : Int))
def T8.fe (T : T8) (s : Int × Int) : Option Og := fnd Og.s s T.ex
def T8.fi (T : T8) (s : Int × Int) : Option Ic := fnd Ic.s s T.im
def T8.ft (T : T8) (o : Int) : List Sp := match fnd (Prod.fst : Tm → Int) o T.tb with | some x => x.2 | none => []
/-- Is it closed? -/
def T8.closed (T : T8) (s : Int × Int) : Bool := match T.fi s with | some i => i.gone || i.shut | none => has (T.ft s.1) s.2
/-- Can an import begin? -/
def T8.beg (T : T8) (s : Int × Int) : Bool := match T.fi s with | some _ => false | none => decide (s.1 ≠ T.id) && !T.closed s
/-- Is there one that is not decided? -/
def T8.und (T : T8) (s : Int × Int) : Bool := match T.fi s with | some i => !i.done && !i.gone | none => false
def emp (s : Int × Int) : Ic := ⟨s.1, s.2, 0, 0, 0, [], [], false, false, false, false, 0⟩
def T8.at (T : T8) (s : Int × Int) : Ic := match T.fi s with | some i => i | none => emp s
def agr (known told : Int) (n : Nat) : Bool := (known == 0 || told == known) && (told == 0 || decide ((n : Int) ≤ told))
def cov (l : List Sp) (s : Sp) : Bool := (gps l s).isEmpty

/-- Is all so that stands in a record's row? -/
def T8.folw (T : T8) (r : Rc) : Bool :=
  if r.kind = 1 then (T.id == 0 || T.id == r.org) && (T.boots == 0 || T.boots + 1 == r.size)
  else if T.id = 0 then false
  else if r.kind = 2 then decide (T.next ≤ r.size)
  else if r.kind = 3 then r.org == T.id && (decide (T.next ≤ r.num) && decide (r.peer ≠ T.id))
  else if r.kind = 4 then (match T.fe (sR r) with | some x => !x.ended | none => false)
  else if r.kind = 5 then (match T.fe (sR r) with | some x => x.ended | none => false)
  else if r.kind = 6 then T.beg (sR r) || (T.und (sR r) && ((T.at (sR r)).srv == r.srv && (agr (T.at (sR r)).red r.red (T.at (sR r)).data.length && agr (T.at (sR r)).size r.size (T.at (sR r)).data.length)))
  else if r.kind = 7 then T.und (sR r) && (decide ((T.at (sR r)).red ≠ 0) && cov (T.at (sR r)).hv (0, (T.at (sR r)).red))
  else if r.kind = 8 then T.beg (sR r) || T.und (sR r)
  else if r.kind = 9 then (match T.fi (sR r) with | some i => (i.done || i.gone) && !i.heard | none => false)
  else if r.kind = 10 then (match T.fi (sR r) with | some i => i.done && !i.shut | none => false)
  else if r.kind = 11 then decide (r.size ≠ T.id)
  else T.beg (sR r)
def T8.fits (T : T8) (r : Rc) : Bool := if r.kind = 6 then decide ((un (T.at (sR r)).hv (plc r)).length ≤ 2000) else true
/-- WHAT Can ANSWERS. -/
def T8.can (T : T8) (r : Rc) : Int := if mayB6 r = false then 60 else if T.folw r = false then 80 else if T.fits r = false then 3 else 0

def T8.bury (T : T8) (o : Int) (l : List Sp) : T8 := { T with tb := ins ltI Prod.fst (o, nar (uns (T.ft o) l)) T.tb }
def T8.putI (T : T8) (i : Ic) : T8 := { T with im := ins ltS Ic.s i T.im }
def T8.settle (T : T8) (i : Ic) : T8 := if (i.heard && (i.gone || i.shut)) = true then ({ T with im := rm Ic.s i.s T.im } : T8).bury i.org [(i.num, i.num + 1)] else T.putI i
/-- The bytes of an import with those that had not come yet. -/
def laid (i : Ic) (r : Rc) : List Int := lay r.data r.off (pad i.data (plc r).2.toNat) (pc (plc r).2 (plc r).1 i.hv)
/-- WHAT A TABLE COMES TO by a record that can follow. -/
def T8.then' (T : T8) (r : Rc) : T8 :=
  if r.kind = 1 then { T with id := r.org, boots := r.size }
  else if r.kind = 2 then { T with next := r.size }
  else if r.kind = 3 then { T with ex := ins ltS Og.s ⟨r.org, r.num, r.peer, r.srv, r.red, r.size, r.data, false, 0⟩ T.ex, next := r.num + 1 }
  else if r.kind = 4 then (match T.fe (sR r) with | some x => { T with ex := ins ltS Og.s { x with ended := true, how := r.how } T.ex } | none => T)
  else if r.kind = 5 then { T with ex := rm Og.s (sR r) T.ex }
  else if r.kind = 6 then T.putI { T.at (sR r) with srv := r.srv, red := r.red, size := r.size, data := laid (T.at (sR r)) r, hv := un (T.at (sR r)).hv (plc r) }
  else if r.kind = 7 then T.putI { T.at (sR r) with done := true }
  else if r.kind = 8 then T.putI ⟨r.org, r.num, 0, 0, 0, [], [], false, true, false, false, r.how⟩
  else if r.kind = 9 then T.settle { T.at (sR r) with heard := true, data := [] }
  else if r.kind = 10 then T.settle { T.at (sR r) with shut := true }
  else if r.kind = 11 then T.bury r.size r.spans
  else T.putI ⟨r.org, r.num, r.srv, r.red, r.size, [(0, r.red)], [], true, false, true, false, 0⟩
/-- WHAT Apply LEAVES. -/
def T8.app (T : T8) (r : Rc) : T8 := if T.can r = 0 then T.then' r else T
/-- WHAT Load ANSWERS: a table, how many came, why not. -/
def ld (T : T8) (n : Int) : List Rc → Option T8 × Int × Int
  | [] => (some T, 0, 0)
  | r :: l => if T.can r = 0 then ld (T.then' r) (n + 1) l else (none, n, T.can r)

/-! ## A short row of records -/
def rc0 (k : Int) (s : Int × Int) : Rc := ⟨k, s.1, s.2, 0, 0, 0, 0, 0, 0, [], []⟩
def exR (x : Og) : List Rc := { rc0 3 x.s with peer := x.peer, srv := x.srv, red := x.red, size := x.size, data := x.data } :: (if x.ended = true then [{ rc0 4 x.s with how := x.how }] else [])
def rdR8 (i : Ic) (h : Sp) : Rc := { rc0 6 i.s with srv := i.srv, red := i.red, size := i.size, off := h.1, data := (i.data.drop h.1.toNat).take (h.2 - h.1).toNat }
def imR (i : Ic) : List Rc :=
  if i.gone = true then [{ rc0 8 i.s with how := i.how }]
  else if i.heard = true then [{ rc0 12 i.s with srv := i.srv, red := i.red, size := i.size }]
  else i.hv.map (rdR8 i) ++ ((if i.done = true then [rc0 7 i.s] else []) ++ (if i.shut = true then [rc0 10 i.s] else []))
def tbR (x : Tm) : Rc := { rc0 11 (0, 0) with size := x.1, spans := x.2 }
def nxt : Int → List Og → Int
  | n, [] => n
  | _, x :: r => nxt (x.num + 1) r
def T8.snap (T : T8) : List Rc :=
  if T.id = 0 then []
  else { rc0 1 (T.id, 0) with size := T.boots } :: (T.ex.flatMap exR ++ ((if T.next ≠ nxt 1 T.ex then [{ rc0 2 (0, 0) with size := T.next }] else []) ++ (T.im.flatMap imR ++ T.tb.map tbR)))

/-! ## What holds of every table -/
abbrev mxN : Int := 4611686018427387903
def lst (l : List Sp) : Int := match l.getLast? with | some x => x.2 | none => 0
structure Og.Ok (d n : Int) (x : Og) : Prop where
  org : x.org = d
  num : 1 ≤ x.num ∧ x.num < n ∧ x.num < mxN
  peer : 1 ≤ x.peer ∧ x.peer ≤ mxN ∧ x.peer ≠ d
  srv : 0 ≤ x.srv ∧ x.srv ≤ mxN
  len : 1 ≤ x.red ∧ x.red ≤ x.size ∧ x.size ≤ 65536
  data : (x.data.length : Int) = x.red
  byt : Bytey x.data
  how : 0 ≤ x.how ∧ x.how ≤ 6
  was : x.ended = false → x.how = 0
structure Ic.Ok (d : Int) (x : Ic) : Prop where
  org : 1 ≤ x.org ∧ x.org ≤ mxN ∧ x.org ≠ d
  num : 1 ≤ x.num ∧ x.num < mxN
  how : 0 ≤ x.how ∧ x.how ≤ 5
  gn : x.gone = true → x = ⟨x.org, x.num, 0, 0, 0, [], [], false, true, false, false, x.how⟩
  hw : x.gone = false → x.how = 0
  srv : 0 ≤ x.srv ∧ x.srv ≤ mxN
  rt : Rt 0 x.hv
  few : x.hv.length ≤ 2000
  some : x.gone = false → x.hv ≠ []
  most : lst x.hv ≤ 65536
  dat : x.data.length = if x.heard = true then 0 else (lst x.hv).toNat
  byt : Bytey x.data
  nil : ∀ j : Nat, has x.hv j = false → x.data.getD j 0 = 0
  red : x.red = 0 ∨ lst x.hv ≤ x.red ∧ x.red ≤ 65536
  size : x.size = 0 ∨ max (lst x.hv) x.red ≤ x.size ∧ x.size ≤ 65536
  dn : x.done = true → 1 ≤ x.red ∧ x.hv = [(0, x.red)]
  hd : x.heard = true → x.done = true ∧ x.shut = false
  sh : x.shut = true → x.done = true
structure T8.Ok (T : T8) : Prop where
  id : 0 ≤ T.id ∧ T.id ≤ mxN
  none : T.id = 0 → T = t0
  boots : T.id ≠ 0 → 1 ≤ T.boots ∧ T.boots ≤ 1073741824
  next : 1 ≤ T.next ∧ T.next ≤ mxN
  exs : Srt ltS Og.s T.ex
  ex : ∀ x ∈ T.ex, x.Ok T.id T.next
  ims : Srt ltS Ic.s T.im
  im : ∀ x ∈ T.im, x.Ok T.id
  tbs : Srt ltI (Prod.fst : Tm → Int) T.tb
  tb : ∀ x ∈ T.tb, 1 ≤ x.1 ∧ x.1 ≤ mxN ∧ x.1 ≠ T.id ∧ x.2 ≠ [] ∧ x.2.length ≤ 500 ∧ Rt 1 x.2
theorem ok_t0 : t0.Ok := ⟨by decide, fun _ => rfl, fun h => absurd rfl h, by decide, List.Pairwise.nil, fun x h => (List.not_mem_nil h).elim, List.Pairwise.nil, fun x h => (List.not_mem_nil h).elim, List.Pairwise.nil, fun x h => (List.not_mem_nil h).elim⟩
end Go.Proofs.YtillgoegiplmkaaGreatDoor.B

namespace Go.Proofs.YtillgoegiplmkaaGreatDoor.B
open C
set_option linter.unusedVariables false
set_option linter.unusedSimpArgs false

/-! ## What holds of every table is kept by every record that can follow -/
/-- What a record that may be says, kind by kind. -/
structure MayR (r : Rc) : Prop where
  k1 : r.kind = 1 → 1 ≤ r.org ∧ r.org ≤ mxN ∧ 1 ≤ r.size ∧ r.size ≤ 1073741824
  k2 : r.kind = 2 → 1 ≤ r.size ∧ r.size ≤ mxN
  ses : ¬ r.kind = 1 → ¬ r.kind = 2 → ¬ r.kind = 11 → 1 ≤ r.org ∧ r.org ≤ mxN ∧ 1 ≤ r.num ∧ r.num < mxN
  k3 : r.kind = 3 → (1 ≤ r.peer ∧ r.peer ≤ mxN) ∧ (0 ≤ r.srv ∧ r.srv ≤ mxN) ∧ (1 ≤ r.red ∧ r.red ≤ r.size ∧ r.size ≤ 65536) ∧ (r.data.length : Int) = r.red
  k4 : r.kind = 4 → 0 ≤ r.how ∧ r.how ≤ 6
  k6 : r.kind = 6 → (0 ≤ r.srv ∧ r.srv ≤ mxN) ∧ 0 ≤ r.off ∧ 1 ≤ (r.data.length : Int) ∧ r.off + (r.data.length : Int) ≤ 65536 ∧ (r.red = 0 ∨ r.off + (r.data.length : Int) ≤ r.red ∧ r.red ≤ 65536) ∧ (r.size = 0 ∨ max (r.off + (r.data.length : Int)) r.red ≤ r.size ∧ r.size ≤ 65536)
  k8 : r.kind = 8 → 0 ≤ r.how ∧ r.how ≤ 5
  k11 : r.kind = 11 → 1 ≤ r.size ∧ r.size ≤ mxN ∧ r.spans ≠ [] ∧ r.spans.length ≤ 500 ∧ Rt 1 r.spans
  k12 : r.kind = 12 → (0 ≤ r.srv ∧ r.srv ≤ mxN) ∧ (1 ≤ r.red ∧ r.red ≤ 65536) ∧ (r.size = 0 ∨ r.red ≤ r.size ∧ r.size ≤ 65536)
  top : 1 ≤ r.kind ∧ r.kind ≤ 12

theorem T8.Ok.fe {T : T8} (h : T.Ok) {s : Int × Int} {x : Og} (hx : T.fe s = some x) : x.Ok T.id T.next ∧ x.s = s := ⟨h.ex x (fnd_some hx).1, (fnd_some hx).2⟩
theorem T8.Ok.fi {T : T8} (h : T.Ok) {s : Int × Int} {x : Ic} (hx : T.fi s = some x) : x.Ok T.id ∧ x.s = s := ⟨h.im x (fnd_some hx).1, (fnd_some hx).2⟩
theorem T8.Ok.ft {T : T8} (h : T.Ok) (o : Int) : Rt 1 (T.ft o) ∧ (T.ft o).length ≤ 500 := by
  unfold T8.ft
  split
  · rename_i x hx
    have := h.tb x (fnd_some hx).1
    exact ⟨this.2.2.2.2.2, this.2.2.2.2.1⟩
  · exact ⟨trivial, by simp⟩

theorem ok_putI {T : T8} {i : Ic} (h : T.Ok) (h0 : T.id ≠ 0) (hi : i.Ok T.id) : (T.putI i).Ok :=
  ⟨h.id, fun e => absurd e h0, h.boots, h.next, h.exs, h.ex, ins_srt ordS h.ims, fun x hx => by
    rcases mem_ins hx with rfl | hx
    · exact hi
    · exact h.im x hx, h.tbs, h.tb⟩
theorem ok_rmI {T : T8} {s : Int × Int} (h : T.Ok) (h0 : T.id ≠ 0) : ({ T with im := rm Ic.s s T.im } : T8).Ok :=
  ⟨h.id, fun e => absurd e h0, h.boots, h.next, h.exs, h.ex, rm_srt h.ims, fun x hx => h.im x (mem_rm.mp hx).1, h.tbs, h.tb⟩
theorem rt1_uns {l m : List Sp} (hl : Rt 1 l) (hm : Rt 1 m) : Rt 1 (uns l m) := by
  have u := uns_all (hl.mono (by omega)) hm (by omega)
  have e : ∀ {k : List Sp}, Rt 0 k → (∀ x, has k x = true → 1 ≤ x) → Rt 1 k := fun {k} hk hx => by
    cases k with
    | nil => trivial
    | cons a r =>
      obtain ⟨a1, a2, a3, a4⟩ := hk
      exact ⟨hx a.1 (by rw [has_cons]; left; omega), a2, a3, a4⟩
  refine e u.rt (fun x hx => ?_)
  rw [u.all, Bool.or_eq_true] at hx
  rcases hx with hx | hx
  · exact (hl.low hx).1
  · exact (hm.low hx).1
theorem uns_pos : ∀ {m l : List Sp}, m ≠ [] ∨ l ≠ [] → uns l m ≠ []
  | [], l, h => by rcases h with h | h; exact absurd rfl h; exact h
  | s :: m, l, _ => by
      rw [uns_cons]
      refine uns_pos (.inr (fun e => ?_))
      have := un_len l s
      rw [e] at this
      simp at this
theorem ok_bury {T : T8} {o : Int} {l : List Sp} (h : T.Ok) (h0 : T.id ≠ 0) (ho : 1 ≤ o ∧ o ≤ mxN ∧ o ≠ T.id) (hl : Rt 1 l) (hn : l ≠ []) : (T.bury o l).Ok :=
  ⟨h.id, fun e => absurd e h0, h.boots, h.next, h.exs, h.ex, h.ims, h.im, ins_srt ordI h.tbs, fun x hx => by
    rcases mem_ins hx with rfl | hx
    · exact ⟨ho.1, ho.2.1, ho.2.2, nar_pos (uns_pos (.inl hn)), nar_len _, nar_rt (rt1_uns (h.ft o).1 hl)⟩
    · exact h.tb x hx⟩
theorem ok_settle {T : T8} {i : Ic} (h : T.Ok) (h0 : T.id ≠ 0) (ho : 1 ≤ i.org ∧ i.org ≤ mxN ∧ i.org ≠ T.id) (hn : 1 ≤ i.num ∧ i.num < mxN) (hi : (i.heard && (i.gone || i.shut)) = false → i.Ok T.id) : (T.settle i).Ok := by
  unfold T8.settle
  split
  · exact ok_bury (ok_rmI h h0) h0 ho ⟨hn.1, by simp only; omega, by simp only [mxN] at hn ⊢; omega, trivial⟩ (by simp)
  · rename_i c
    exact ok_putI h h0 (hi (by simpa using c))
end Go.Proofs.YtillgoegiplmkaaGreatDoor.B

namespace Go.Proofs.YtillgoegiplmkaaGreatDoor.B
open C
set_option linter.unusedVariables false
set_option linter.unusedSimpArgs false

/-! ## Red bytes came -/
theorem lst_cons {a : Sp} : ∀ {r : List Sp}, lst (a :: r) = if r = [] then a.2 else lst r
  | [] => rfl
  | b :: r => by simp [lst, List.getLast?_cons_cons]
theorem lst_top : ∀ {l : List Sp} {lo : Int}, Rt lo l → ∀ s ∈ l, s.2 ≤ lst l
  | [], _, _, s, h => by simp at h
  | a :: r, lo, h, s, hs => by
      obtain ⟨a1, a2, a3, a4⟩ := h
      rw [lst_cons]
      split
      · rename_i e; subst e; simp at hs; subst hs; exact Int.le_refl _
      · rename_i e
        rcases List.mem_cons.mp hs with rfl | hs
        · cases r with
          | nil => exact absurd rfl e
          | cons b r => have := lst_top a4 b (by simp); have := a4.1; have := a4.2.1; omega
        · exact lst_top a4 s hs
theorem lst_pos {l : List Sp} {lo : Int} (h : Rt lo l) (h0 : 0 ≤ lo) : 0 ≤ lst l := by
  cases l with
  | nil => simp [lst]
  | cons a r => have := lst_top h a (by simp); have := h.1; have := h.2.1; omega
theorem un_lst : ∀ {l : List Sp} {lo : Int} {s : Sp}, Rt lo l → 0 ≤ lo → lo ≤ s.1 → s.1 < s.2 → lst (un l s) = max (lst l) s.2
  | [], lo, s, _, h0, h1, h2 => by simp only [un, lst, List.getLast?_singleton, List.getLast?_nil]; omega
  | t :: r, lo, s, h, h0, h1, h2 => by
      obtain ⟨a1, a2, a3, a4⟩ := h
      rw [un]
      have hp : un r s ≠ [] := fun e => by have := un_len r s; rw [e] at this; simp at this
      split
      · rename_i c
        have ih := un_lst (s := s) a4 (by omega) (by omega) h2
        rw [lst_cons, if_neg hp, ih, lst_cons]
        split
        · rename_i e; subst e; simp only [lst, List.getLast?_nil]; omega
        · rfl
      · split
        · rename_i c1 c2
          rw [lst_cons, if_neg (by simp)]
          have := lst_top (l := t :: r) (lo := lo) ⟨a1, a2, a3, a4⟩ t (by simp)
          omega
        · rename_i c1 c2
          have ih := un_lst (l := r) (lo := min t.1 s.1) (s := (min t.1 s.1, max t.2 s.2)) (a4.mono (by omega)) (by omega) (by simp only; omega) (by simp only; omega)
          rw [ih, lst_cons]
          split
          · rename_i e; subst e; simp only [lst, List.getLast?_nil]; omega
          · rename_i e
            cases r with
            | nil => exact absurd rfl e
            | cons b r => have := lst_top a4 b (by simp); have := a4.1; have := a4.2.1; simp only; omega

/-- An import to which bytes come: one that is, or none. -/
structure Rdy (d : Int) (i : Ic) : Prop where
  org : 1 ≤ i.org ∧ i.org ≤ mxN ∧ i.org ≠ d
  num : 1 ≤ i.num ∧ i.num < mxN
  how : i.how = 0
  flg : i.done = false ∧ i.gone = false ∧ i.heard = false ∧ i.shut = false
  rt : Rt 0 i.hv
  few : i.hv.length ≤ 2000
  most : lst i.hv ≤ 65536
  dat : i.data.length = (lst i.hv).toNat
  byt : Bytey i.data
  nil : ∀ j : Nat, has i.hv j = false → i.data.getD j 0 = 0
theorem Ic.Ok.rdy {d : Int} {i : Ic} (h : i.Ok d) (h1 : i.done = false) (h2 : i.gone = false) : Rdy d i := by
  have hs : i.shut = false := by cases e : i.shut with | false => rfl | true => have := h.sh e; rw [h1] at this; cases this
  have hh : i.heard = false := by cases e : i.heard with | false => rfl | true => have := (h.hd e).1; rw [h1] at this; cases this
  exact ⟨h.org, h.num, h.hw h2, ⟨h1, h2, hh, hs⟩, h.rt, h.few, h.most, by rw [h.dat, if_neg (by simp [hh])], h.byt, h.nil⟩
theorem rdy_emp {d : Int} {s : Int × Int} (h1 : 1 ≤ s.1 ∧ s.1 ≤ mxN ∧ s.1 ≠ d) (h2 : 1 ≤ s.2 ∧ s.2 < mxN) : Rdy d (emp s) :=
  ⟨h1, h2, rfl, ⟨rfl, rfl, rfl, rfl⟩, trivial, by simp [emp], by simp [emp, lst], by simp [emp, lst], fun z hz => by simp [emp] at hz, fun j _ => by simp [emp]⟩
theorem Rdy.bf {d : Int} {i : Ic} (h : Rdy d i) : (⟨i.hv, i.data, false⟩ : Bf).Ok :=
  ⟨⟨h.few, h.rt⟩, h.byt, by show i.data.length ≤ 65536; have := h.dat; have := h.most; omega, fun s hs => by have := lst_top h.rt s hs; have := h.most; omega, fun _ s hs => by
    have := lst_top h.rt s hs; have := h.dat; have := lst_pos h.rt (by omega); show s.2 ≤ (i.data.length : Int); omega, fun e => by cases e⟩
theorem laid_tk (i : Ic) (r : Rc) : laid i r = tkB ⟨i.hv, i.data, false⟩ r.off r.data := rfl

theorem come_ok {d : Int} {i : Ic} {r : Rc} (h : Rdy d i) (hs : 0 ≤ r.srv ∧ r.srv ≤ mxN) (h0 : 0 ≤ r.off) (h1 : 1 ≤ (r.data.length : Int)) (h2 : r.off + (r.data.length : Int) ≤ 65536)
    (hr : r.red = 0 ∨ r.off + (r.data.length : Int) ≤ r.red ∧ r.red ≤ 65536) (hz : r.size = 0 ∨ max (r.off + (r.data.length : Int)) r.red ≤ r.size ∧ r.size ≤ 65536)
    (ar : r.red = 0 ∨ (i.data.length : Int) ≤ r.red) (az : r.size = 0 ∨ (i.data.length : Int) ≤ r.size) (hb : Bytey r.data) (hf : (un i.hv (plc r)).length ≤ 2000) :
    ({ i with srv := r.srv, red := r.red, size := r.size, data := laid i r, hv := un i.hv (plc r) } : Ic).Ok d := by
  have hm : may4 r.off r.data := ⟨by omega, by omega, h0, h2⟩
  have hp : (plc r).1 < (plc r).2 := by simp only [plc]; omega
  have hl := un_lst h.rt (by omega) (s := plc r) h0 hp
  have hlp := lst_pos h.rt (by omega)
  have hd := h.dat
  have hmo := h.most
  have htk := tk_len h.bf rfl hm
  simp only at htk
  obtain ⟨f1, f2, f3, f4⟩ := h.flg
  have e2 : (plc r).2 = r.off + (r.data.length : Int) := rfl
  refine ⟨h.org, h.num, ?_, ?_, fun _ => h.how, hs, ?_, hf, ?_, ?_, ?_, ?_, ?_, ?_, ?_, ?_, ?_, ?_⟩
  · show 0 ≤ i.how ∧ i.how ≤ 5; rw [h.how]; omega
  · intro e; simp only [f2] at e; cases e
  · exact un_rt h.rt h0 hp (by rw [e2]; omega)
  · intro _ e; have := un_len i.hv (plc r); simp only at e; rw [e] at this; simp at this
  · show lst (un i.hv (plc r)) ≤ 65536; omega
  · show (laid i r).length = if i.heard = true then 0 else (lst (un i.hv (plc r))).toNat
    rw [if_neg (by simp [f3]), laid_tk, htk]; omega
  · show Bytey (laid i r); exact lay_byte hb (pad_byte h.byt)
  · intro j hj
    show (laid i r).getD j 0 = 0
    have hj' : has (un i.hv (plc r)) j = false := hj
    rw [un_has h.rt hp, Bool.or_eq_false_iff] at hj'
    rw [laid_tk, tk_get h.bf rfl hm, if_neg (fun c => by have := inn_off.mp hj'.2; exact this c.1)]
    exact h.nil j hj'.1
  · show r.red = 0 ∨ lst (un i.hv (plc r)) ≤ r.red ∧ r.red ≤ 65536; omega
  · show r.size = 0 ∨ max (lst (un i.hv (plc r))) r.red ≤ r.size ∧ r.size ≤ 65536; omega
  · intro e; simp only [f1] at e; cases e
  · intro e; simp only [f3] at e; cases e
  · intro e; simp only [f4] at e; cases e
end Go.Proofs.YtillgoegiplmkaaGreatDoor.B

namespace Go.Proofs.YtillgoegiplmkaaGreatDoor.B
open C
set_option linter.unusedVariables false
set_option linter.unusedSimpArgs false

theorem T8.und_some {T : T8} {s : Int × Int} (h : T.und s = true) : ∃ i, T.fi s = some i ∧ i.done = false ∧ i.gone = false ∧ T.at s = i := by
  unfold T8.und at h
  split at h
  · rename_i i hi
    simp only [Bool.and_eq_true, Bool.not_eq_true'] at h
    exact ⟨i, hi, h.1, h.2, by unfold T8.at; rw [hi]⟩
  · cases h
theorem T8.beg_none {T : T8} {s : Int × Int} (h : T.beg s = true) : T.fi s = none ∧ s.1 ≠ T.id ∧ T.closed s = false ∧ T.at s = emp s := by
  unfold T8.beg at h
  split at h
  · cases h
  · rename_i hi
    simp only [Bool.and_eq_true, Bool.not_eq_true', decide_eq_true_eq] at h
    exact ⟨hi, h.1, h.2, by unfold T8.at; rw [hi]⟩
theorem agr_le {k t : Int} {n : Nat} (h : agr k t n = true) : t = 0 ∨ (n : Int) ≤ t := by
  simp only [agr, Bool.and_eq_true, Bool.or_eq_true, beq_iff_eq, decide_eq_true_eq] at h
  exact h.2

/-- What covers a beginning, and ends with it, is it. -/
theorem cov_one {l : List Sp} {n : Int} (h : Rt 0 l) (h1 : 1 ≤ n) (hl : lst l ≤ n) (hn : n ≤ mxN) (hc : cov l (0, n) = true) : l = [(0, n)] := by
  have ha : Asked (0, n) := ⟨by simp only; omega, by simp only; omega, hn⟩
  have hg : gps l (0, n) = [] := by simpa [cov] using hc
  refine h.uniq (b := [(0, n)]) (lb := 0) ⟨by simp only; omega, by simp only; omega, hn, trivial⟩ (fun x => ?_)
  have q := gps_has (s := (0, n)) h x
  rw [hg] at q
  simp only [has] at q
  rw [has_one]
  cases e : inn (0, n) x with
  | true =>
    rw [e] at q
    cases f : has l x with
    | true => rfl
    | false => rw [f] at q; cases q
  | false =>
    cases f : has l x with
    | false => rfl
    | true =>
      obtain ⟨s, hs, s1, s2⟩ := has_mem.mp f
      have := lst_top h s hs
      have := (h.mem s hs).1
      have := inn_off.mp e
      simp only at this
      omega

set_option maxHeartbeats 1000000 in
/-- WHAT HOLDS OF A TABLE IS KEPT. -/
theorem ok_then {T : T8} {r : Rc} (h : T.Ok) (hm : MayR r) (hb : Bytey r.data) (hf : T.folw r = true) (hs : T.fits r = true) : (T.then' r).Ok := by
  unfold T8.folw at hf
  unfold T8.then'
  by_cases c1 : r.kind = 1
  · rw [if_pos c1] at hf ⊢
    obtain ⟨m1, m2, m3, m4⟩ := hm.k1 c1
    simp only [Bool.and_eq_true, Bool.or_eq_true, beq_iff_eq] at hf
    by_cases z : T.id = 0
    · have := h.none z
      subst this
      exact ⟨⟨by simp only; omega, m2⟩, fun e => by simp only at e; omega, fun _ => ⟨m3, m4⟩, by simp [t0, mxN], List.Pairwise.nil, fun x hx => (List.not_mem_nil hx).elim, List.Pairwise.nil, fun x hx => (List.not_mem_nil hx).elim, List.Pairwise.nil, fun x hx => (List.not_mem_nil hx).elim⟩
    · have e : T.id = r.org := by rcases hf.1 with q | q; exact absurd q z; exact q
      exact ⟨⟨by simp only; omega, m2⟩, fun q => by simp only at q; omega, fun _ => ⟨m3, m4⟩, h.next, h.exs, fun x hx => e ▸ h.ex x hx, h.ims, fun x hx => e ▸ h.im x hx, h.tbs, fun x hx => e ▸ h.tb x hx⟩
  rw [if_neg c1] at hf ⊢
  by_cases z : T.id = 0
  · rw [if_pos z] at hf; cases hf
  rw [if_neg z] at hf
  by_cases c2 : r.kind = 2
  · rw [if_pos c2] at hf ⊢
    obtain ⟨m1, m2⟩ := hm.k2 c2
    simp only [decide_eq_true_eq] at hf
    exact ⟨h.id, fun e => absurd e z, h.boots, ⟨m1, m2⟩, h.exs, fun x hx => by
      have q := h.ex x hx
      exact ⟨q.org, ⟨q.num.1, by have := q.num.2.1; show x.num < r.size; omega, q.num.2.2⟩, q.peer, q.srv, q.len, q.data, q.byt, q.how, q.was⟩, h.ims, h.im, h.tbs, h.tb⟩
  rw [if_neg c2] at hf ⊢
  by_cases c3 : r.kind = 3
  · rw [if_pos c3] at hf ⊢
    obtain ⟨⟨p1, p2⟩, ps, pl, pd⟩ := hm.k3 c3
    obtain ⟨s1, s2, s3, s4⟩ := hm.ses c1 c2 (by omega)
    simp only [Bool.and_eq_true, beq_iff_eq, decide_eq_true_eq] at hf
    obtain ⟨f1, f2, f3⟩ := hf
    refine ⟨h.id, fun e => absurd e z, h.boots, ⟨by simp only; omega, by simp only [mxN] at s4 ⊢; omega⟩, ins_srt ordS h.exs, fun x hx => ?_, h.ims, h.im, h.tbs, h.tb⟩
    rcases mem_ins hx with rfl | hx
    · exact ⟨f1, ⟨s3, by simp only; omega, s4⟩, ⟨p1, p2, f3⟩, ps, pl, pd, hb, ⟨by simp only; omega, by simp only; omega⟩, fun _ => rfl⟩
    · have q := h.ex x hx
      exact ⟨q.org, ⟨q.num.1, by have := q.num.2.1; show x.num < r.num + 1; omega, q.num.2.2⟩, q.peer, q.srv, q.len, q.data, q.byt, q.how, q.was⟩
  rw [if_neg c3] at hf ⊢
  by_cases c4 : r.kind = 4
  · rw [if_pos c4] at hf ⊢
    split
    · rename_i x hx
      refine ⟨h.id, fun e => absurd e z, h.boots, h.next, ins_srt ordS h.exs, fun y hy => ?_, h.ims, h.im, h.tbs, h.tb⟩
      rcases mem_ins hy with rfl | hy
      · have q := (h.fe hx).1
        exact ⟨q.org, q.num, q.peer, q.srv, q.len, q.data, q.byt, hm.k4 c4, fun e => (by cases e)⟩
      · exact h.ex y hy
    · exact h
  rw [if_neg c4] at hf ⊢
  by_cases c5 : r.kind = 5
  · rw [if_pos c5]
    exact ⟨h.id, fun e => absurd e z, h.boots, h.next, rm_srt h.exs, fun y hy => h.ex y (mem_rm.mp hy).1, h.ims, h.im, h.tbs, h.tb⟩
  rw [if_neg c5] at hf ⊢
  by_cases c6 : r.kind = 6
  · rw [if_pos c6] at hf ⊢
    obtain ⟨ks, k0, k1, k2, kr, kz⟩ := hm.k6 c6
    obtain ⟨s1, s2, s3, s4⟩ := hm.ses c1 c2 (by omega)
    unfold T8.fits at hs
    rw [if_pos c6, decide_eq_true_eq] at hs
    rw [Bool.or_eq_true] at hf
    rcases hf with hf | hf
    · obtain ⟨b1, b2, b3, b4⟩ := T8.beg_none hf
      rw [b4] at hs ⊢
      exact ok_putI h z (come_ok (rdy_emp ⟨s1, s2, b2⟩ ⟨s3, s4⟩) ks k0 k1 k2 kr kz (by simp only [emp, List.length_nil]; omega) (by simp only [emp, List.length_nil]; omega) hb hs)
    · simp only [Bool.and_eq_true] at hf
      obtain ⟨u, -, a1, a2⟩ := hf
      obtain ⟨i, hi, d1, d2, e⟩ := T8.und_some u
      rw [e] at hs a1 a2 ⊢
      exact ok_putI h z (come_ok ((h.fi hi).1.rdy d1 d2) ks k0 k1 k2 kr kz (agr_le a1) (agr_le a2) hb hs)
  rw [if_neg c6] at hf ⊢
  by_cases c7 : r.kind = 7
  · rw [if_pos c7] at hf ⊢
    simp only [Bool.and_eq_true, decide_eq_true_eq] at hf
    obtain ⟨u, n, c⟩ := hf
    obtain ⟨i, hi, d1, d2, e⟩ := T8.und_some u
    rw [e] at n c ⊢
    have q := (h.fi hi).1
    have hr := q.red
    have hp := lst_pos q.rt (by omega)
    have hone : 1 ≤ i.red := by omega
    have hx : i.hv = [(0, i.red)] := cov_one q.rt hone (by omega) (by simp only [mxN]; omega) c
    refine ok_putI h z ⟨q.org, q.num, q.how, fun g => (by simp only [d2] at g; cases g), q.hw, q.srv, q.rt, q.few, q.some, q.most, q.dat, q.byt, q.nil, q.red, q.size, fun _ => ⟨hone, hx⟩, fun g => ⟨rfl, (q.hd g).2⟩, fun _ => rfl⟩
  rw [if_neg c7] at hf ⊢
  by_cases c8 : r.kind = 8
  · rw [if_pos c8] at hf ⊢
    obtain ⟨s1, s2, s3, s4⟩ := hm.ses c1 c2 (by omega)
    have hn : r.org ≠ T.id := by
      rw [Bool.or_eq_true] at hf
      rcases hf with hf | hf
      · exact (T8.beg_none hf).2.1
      · obtain ⟨i, hi, -, -, -⟩ := T8.und_some hf
        have := h.fi hi
        have e : i.org = r.org := congrArg Prod.fst this.2
        exact e ▸ this.1.org.2.2
    exact ok_putI h z ⟨⟨s1, s2, hn⟩, ⟨s3, s4⟩, hm.k8 c8, fun _ => rfl, fun g => (by cases g), ⟨by simp only; omega, by simp only [mxN]; omega⟩, trivial, by simp, fun g => (by cases g), by simp [lst], by simp [lst], fun y hy => by simp at hy, fun j _ => by simp, .inl rfl, .inl rfl, fun g => (by cases g), fun g => (by cases g), fun g => (by cases g)⟩
  rw [if_neg c8] at hf ⊢
  by_cases c9 : r.kind = 9
  · rw [if_pos c9] at hf ⊢
    split at hf
    · rename_i i hi
      have q := (h.fi hi).1
      have e : T.at (sR r) = i := by unfold T8.at; rw [hi]
      rw [e]
      simp only [Bool.and_eq_true, Bool.or_eq_true, Bool.not_eq_true'] at hf
      refine ok_settle h z q.org q.num (fun g => ?_)
      simp only [Bool.true_and, Bool.or_eq_false_iff] at g
      obtain ⟨g1, g2⟩ := g
      have dn : i.done = true := by rcases hf.1 with w | w; exact w; rw [g1] at w; cases w
      exact ⟨q.org, q.num, q.how, fun w => (by simp only [g1] at w; cases w), q.hw, q.srv, q.rt, q.few, q.some, q.most, by simp, fun y hy => by simp at hy, fun j _ => by simp, q.red, q.size, q.dn, fun _ => ⟨dn, g2⟩, q.sh⟩
    · cases hf
  rw [if_neg c9] at hf ⊢
  by_cases c10 : r.kind = 10
  · rw [if_pos c10] at hf ⊢
    split at hf
    · rename_i i hi
      have q := (h.fi hi).1
      have e : T.at (sR r) = i := by unfold T8.at; rw [hi]
      rw [e]
      simp only [Bool.and_eq_true, Bool.not_eq_true'] at hf
      refine ok_settle h z q.org q.num (fun g => ?_)
      simp only [Bool.or_true, Bool.and_true] at g
      have gn : i.gone = false := by
        cases w : i.gone with
        | false => rfl
        | true => have := congrArg Ic.done (q.gn w); simp only at this; rw [hf.1] at this; cases this
      exact ⟨q.org, q.num, q.how, fun w => (by simp only [gn] at w; cases w), q.hw, q.srv, q.rt, q.few, q.some, q.most, q.dat, q.byt, q.nil, q.red, q.size, q.dn, fun w => (by simp only [g] at w; cases w), fun _ => hf.1⟩
    · cases hf
  rw [if_neg c10] at hf ⊢
  by_cases c11 : r.kind = 11
  · rw [if_pos c11] at hf ⊢
    obtain ⟨k1, k2, k3, k4, k5⟩ := hm.k11 c11
    simp only [decide_eq_true_eq] at hf
    exact ok_bury h z ⟨k1, k2, hf⟩ k5 k3
  rw [if_neg c11] at hf ⊢
  have c12 : r.kind = 12 := by have := hm.top; omega
  obtain ⟨b1, b2, b3, b4⟩ := T8.beg_none hf
  obtain ⟨s1, s2, s3, s4⟩ := hm.ses c1 c2 (by omega)
  obtain ⟨ks, kr, kz⟩ := hm.k12 c12
  refine ok_putI h z ⟨⟨s1, s2, b2⟩, ⟨s3, s4⟩, ⟨by simp only; omega, by simp only; omega⟩, fun g => (by cases g), fun _ => rfl, ks, ⟨by simp only; omega, by simp only; omega, by simp only; omega, trivial⟩, by simp, fun _ g => (by cases g), ?_, ?_, fun y hy => by simp at hy, fun j _ => by simp, ?_, ?_, fun _ => ⟨kr.1, rfl⟩, fun _ => ⟨rfl, rfl⟩, fun g => (by cases g)⟩
  · simp only [lst, List.getLast?_singleton]; exact kr.2
  · simp
  · simp only [lst, List.getLast?_singleton]; omega
  · simp only [lst, List.getLast?_singleton]; omega
end Go.Proofs.YtillgoegiplmkaaGreatDoor.B
