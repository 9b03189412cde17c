import Derived.Test.YtillgoegiplmkaaGreatDoorTbT
import Derived.Test.YtillgoegiplmkaaGreatDoorTbMi
import Derived.Test.YtillgoegiplmkaaGreatDoorJoi
namespace Go.Proofs.YtillgoegiplmkaaGreatDoor.B
open C
open Go.RowKit Go.Maps
set_option linter.unusedVariables false
set_option linter.unusedSimpArgs false

/-! ## A TABLE IN MEMORY -/
/-- Nothing but S has changed. -/
structure Kl (S : Nat → Prop) (w w' : World) : Prop where
  os : w'.os = w.os
  tape : w'.tape = w.tape
  output : w'.output = w.output
  size : w.heap.size ≤ w'.heap.size
  block : ∀ g, g < w.heap.size → ¬ S g → w'.heap[g]? = w.heap[g]?
theorem Kl.refl (S : Nat → Prop) (w : World) : Kl S w w := ⟨rfl, rfl, rfl, Nat.le_refl _, fun _ _ _ => rfl⟩
theorem Kl.then {S S' : Nat → Prop} {w w1 w2 : World} (h : Kl S w w1) (h' : Kl S' w1 w2) (hs : ∀ g, g < w.heap.size → S' g → S g) : Kl S w w2 :=
  ⟨h'.os.trans h.os, h'.tape.trans h.tape, h'.output.trans h.output, Nat.le_trans h.size h'.size, fun g hg hS => (h'.block g (Nat.lt_of_lt_of_le hg h.size) (fun e => hS (hs g hg e))).trans (h.block g hg hS)⟩
theorem Kl.mono {S S' : Nat → Prop} {w w' : World} (h : Kl S w w') (hs : ∀ g, g < w.heap.size → S g → S' g) : Kl S' w w' := ⟨h.os, h.tape, h.output, h.size, fun g hg hS => h.block g hg (fun e => hS (hs g hg e))⟩
theorem Kl.of_below {S : Nat → Prop} {w w' : World} (h : Below w.heap.size w w') : Kl S w w' := ⟨h.os, h.tape, h.output, h.size, fun g hg _ => h.block g hg⟩
theorem Kl.setOb (w : World) (m : Nat) (o : Obj) : Kl (fun g => g = m) w (setOb w m o) := ⟨rfl, rfl, rfl, by simp [B.setOb], fun g _ hg => setOb_other hg⟩
theorem Kl.setCell (w : World) (a : Addr) (v : Value) : Kl (fun g => g = a.block) w (w.setCell a v) := by
  refine ⟨rfl, rfl, rfl, by simp [World.setCell], fun g _ hg => ?_⟩
  unfold World.setCell
  simp only
  rw [Array.getElem?_modify, if_neg (fun e => hg e.symm)]
theorem own_at {w w' : World} {base size n : Nat} {e : TypeId} {v : Value} {xs : List Value} (h : w.ownsRow base e size v n xs) (hk : ∀ g, v.ownBlock = some g → w'.heap[g]? = w.heap[g]?) : w'.ownsRow base e size v n xs := by
  obtain ⟨hl, h | ⟨g, cap, cur, rfl, hb, hh, r⟩⟩ := h
  · exact ⟨hl, .inl h⟩
  · exact ⟨hl, .inr ⟨g, cap, cur, rfl, hb, (hk g rfl).trans hh, r⟩⟩
theorem own_obj {w : World} {base size n : Nat} {e : TypeId} {v : Value} {xs : List Value} (h : w.ownsRow base e size v n xs) {g : Nat} (hg : v.ownBlock = some g) : ∃ cur, w.heap[g]? = some (.cells cur e (0, 0)) := by
  obtain ⟨hl, ⟨rfl, _⟩ | ⟨g', cap, cur, rfl, hb, hh, r⟩⟩ := h
  · cases hg
  · simp only [Value.ownBlock, Option.some.injEq] at hg
    subst hg
    exact ⟨cur, hh⟩
/-- A row of bytes of one's own. -/
abbrev BO (w : World) (v : Value) (l : List Int) : Prop := w.ownsRow 0 5 1 v l.length (l.map (Value.int .u8))
abbrev SO (w : World) (v : Value) (l : List Sp) : Prop := SOwn w 0 v l
abbrev oV (o : Og) (v : Value) : Value := .agg #[.int .i64 o.org, .int .i64 o.num, .int .i64 o.peer, .int .i64 o.srv, .int .i64 o.red, .int .i64 o.size, v, .bool o.ended, .int .i64 o.how]
abbrev iV (i : Ic) (hv dv : Value) : Value := .agg #[.int .i64 i.org, .int .i64 i.num, .int .i64 i.srv, .int .i64 i.red, .int .i64 i.size, hv, dv, .bool i.done, .bool i.gone, .bool i.heard, .bool i.shut, .int .i64 i.how]
structure Xm where
  o : Og
  v : Value
  b : Nat
def Xm.s (e : Xm) : Ss := e.o.s
def Xm.ent (e : Xm) : Ent := ⟨e.o.s, oV e.o e.v, e.b⟩
structure Im where
  i : Ic
  hv : Value
  dv : Value
  b : Nat
def Im.s (e : Im) : Ss := e.i.s
def Im.ent (e : Im) : Ent := ⟨e.i.s, iV e.i e.hv e.dv, e.b⟩
structure Tp where
  o : Int
  l : List Sp
  v : Value
  b : Nat
def Tp.tm (e : Tp) : Tm := (e.o, e.l)
def Tp.ent (e : Tp) : EnI := ⟨e.o, e.v, e.b⟩
/-- Where it lies, and whose each block is. -/
structure Tz where
  x : Nat
  m1 : Nat
  m2 : Nat
  m3 : Nat
  c1 : Nat
  c2 : Nat
  c3 : Nat
  X : List Xm
  I : List Im
  B : List Tp
  pl : Nat → Option (Nat × Ss)
def Tz.F (z : Tz) (g : Nat) : Prop := z.pl g ≠ none
structure PX (w : World) (pl : Nat → Option (Nat × Ss)) (m c : Nat) (X : List Xm) (L : List Og) : Prop where
  mp : Mb w m c (X.map Xm.ent)
  pm : pl m = some (2, (0, 0))
  r : ∀ e ∈ X, BO w e.v e.o.data ∧ ∀ g, e.v.ownBlock = some g → pl g = some (5, e.o.s)
  srt : Srt ltS Og.s L
  f : ∀ s, fnd Og.s s L = (fnd Xm.s s X).map Xm.o
structure PI (w : World) (pl : Nat → Option (Nat × Ss)) (m c : Nat) (I : List Im) (L : List Ic) : Prop where
  mp : Mb w m c (I.map Im.ent)
  pm : pl m = some (3, (0, 0))
  r : ∀ e ∈ I, (BO w e.dv e.i.data ∧ ∀ g, e.dv.ownBlock = some g → pl g = some (6, e.i.s)) ∧ SO w e.hv e.i.hv ∧ ∀ g, e.hv.ownBlock = some g → pl g = some (7, e.i.s)
  srt : Srt ltS Ic.s L
  f : ∀ s, fnd Ic.s s L = (fnd Im.s s I).map Im.i
structure PB (w : World) (pl : Nat → Option (Nat × Ss)) (m c : Nat) (B : List Tp) (L : List Tm) : Prop where
  mp : Mj w m c (B.map Tp.ent)
  pm : pl m = some (4, (0, 0))
  r : ∀ e ∈ B, SO w e.v e.l ∧ ∀ g, e.v.ownBlock = some g → pl g = some (8, (e.o, 0))
  srt : Srt ltI (Prod.fst : Tm → Int) L
  f : ∀ o, fnd (Prod.fst : Tm → Int) o L = (fnd Tp.o o B).map Tp.tm
structure Tw (w : World) (z : Tz) (T : T8) : Prop where
  box : w.heap[z.x]? = some (.cells #[.int .i64 T.id, .int .i64 T.boots, .int .i64 T.next, .map (some z.m1), .map (some z.m2), .map (some z.m3)] 72 (0, 0))
  px : z.pl z.x = some (1, (0, 0))
  pX : PX w z.pl z.m1 z.c1 z.X T.ex
  pI : PI w z.pl z.m2 z.c2 z.I T.im
  pB : PB w z.pl z.m3 z.c3 z.B T.tb
  lt : ∀ g, z.pl g ≠ none → g < w.heap.size
section
variable {w w' : World} {pl pl' : Nat → Option (Nat × Ss)} {m c : Nat}
theorem PX.keep {X : List Xm} {L : List Og} (h : PX w pl m c X L) (hb : ∀ g t, pl g = some t → t.1 = 2 ∨ t.1 = 5 → w'.heap[g]? = w.heap[g]?) (hp : ∀ g t, pl g = some t → pl' g = some t) : PX w' pl' m c X L :=
  ⟨⟨(hb m _ h.pm (.inl rfl)).trans h.mp.blk, h.mp.nd, h.mp.bn, h.mp.bl, h.mp.wf⟩, hp m _ h.pm, fun e he => ⟨own_at (h.r e he).1 (fun g hg => hb g _ ((h.r e he).2 g hg) (.inr rfl)), fun g hg => hp g _ ((h.r e he).2 g hg)⟩, h.srt, h.f⟩
theorem PI.keep {I : List Im} {L : List Ic} (h : PI w pl m c I L) (hb : ∀ g t, pl g = some t → t.1 = 3 ∨ t.1 = 6 ∨ t.1 = 7 → w'.heap[g]? = w.heap[g]?) (hp : ∀ g t, pl g = some t → pl' g = some t) : PI w' pl' m c I L :=
  ⟨⟨(hb m _ h.pm (.inl rfl)).trans h.mp.blk, h.mp.nd, h.mp.bn, h.mp.bl, h.mp.wf⟩, hp m _ h.pm, fun e he => ⟨⟨own_at (h.r e he).1.1 (fun g hg => hb g _ ((h.r e he).1.2 g hg) (.inr (.inl rfl))), fun g hg => hp g _ ((h.r e he).1.2 g hg)⟩, own_at (h.r e he).2.1 (fun g hg => hb g _ ((h.r e he).2.2 g hg) (.inr (.inr rfl))), fun g hg => hp g _ ((h.r e he).2.2 g hg)⟩, h.srt, h.f⟩
theorem PB.keep {B : List Tp} {L : List Tm} (h : PB w pl m c B L) (hb : ∀ g t, pl g = some t → t.1 = 4 ∨ t.1 = 8 → w'.heap[g]? = w.heap[g]?) (hp : ∀ g t, pl g = some t → pl' g = some t) : PB w' pl' m c B L :=
  ⟨⟨(hb m _ h.pm (.inl rfl)).trans h.mp.blk, h.mp.nd, h.mp.bn, h.mp.bl, h.mp.wf⟩, hp m _ h.pm, fun e he => ⟨own_at (h.r e he).1 (fun g hg => hb g _ ((h.r e he).2 g hg) (.inr rfl)), fun g hg => hp g _ ((h.r e he).2 g hg)⟩, h.srt, h.f⟩
end
theorem Tw.ltp {w : World} {z : Tz} {T : T8} (h : Tw w z T) {g : Nat} {t : Nat × Ss} (e : z.pl g = some t) : g < w.heap.size := h.lt g (by rw [e]; exact fun e => by cases e)
/-- What is nobody's here may change. -/
theorem Tw.keep {S : Nat → Prop} {w w' : World} {z : Tz} {T : T8} (h : Tw w z T) (hk : Kl S w w') (hn : ∀ g, z.F g → ¬ S g) : Tw w' z T := by
  have kp : ∀ g t, z.pl g = some t → w'.heap[g]? = w.heap[g]? := fun g t e => hk.block g (h.ltp e) (hn g (by unfold Tz.F; rw [e]; exact fun e => by cases e))
  exact ⟨(kp _ _ h.px).trans h.box, h.px, h.pX.keep (fun g t e _ => kp g t e) (fun _ _ e => e), h.pI.keep (fun g t e _ => kp g t e) (fun _ _ e => e), h.pB.keep (fun g t e _ => kp g t e) (fun _ _ e => e), fun g hg => Nat.lt_of_lt_of_le (h.lt g hg) hk.size⟩
theorem Tw.below {w w' : World} {z : Tz} {T : T8} (h : Tw w z T) (hb : Below w.heap.size w w') : Tw w' z T := h.keep (S := fun _ => False) (Kl.of_below hb) (fun _ _ => id)
/-- How a table came from another one. -/
structure Up (z z' : Tz) (w w' : World) : Prop where
  x : z'.x = z.x
  k : Kl z.F w w'
  f : ∀ g, z'.F g → z.F g ∨ w.heap.size ≤ g

/-! ### Lists with lookups -/
section
variable {α κ : Type} [DecidableEq κ] {key : α → κ}
theorem fnd_app {k : κ} {x : α} : ∀ {l : List α}, fnd key k (l ++ [x]) = match fnd key k l with | some y => some y | none => if key x = k then some x else none
  | [] => by simp [fnd]
  | a :: r => by
    simp only [List.cons_append, fnd]
    split
    · rfl
    · exact fnd_app
theorem fnd_map {k : κ} (f : α → α) (hf : ∀ x, key (f x) = key x) : ∀ {l : List α}, fnd key k (l.map f) = (fnd key k l).map f
  | [] => by simp [fnd]
  | a :: r => by
    simp only [List.map_cons, fnd, hf]
    split
    · rfl
    · exact fnd_map f hf
end
end Go.Proofs.YtillgoegiplmkaaGreatDoor.B

namespace Go.Proofs.YtillgoegiplmkaaGreatDoor.B
open C
open Go.RowKit Go.Maps
set_option linter.unusedVariables false
set_option linter.unusedSimpArgs false

/-! ## What becomes of a table in memory -/
/-- A row's blocks get a mark. -/
def tagV (pl : Nat → Option (Nat × Ss)) (v : Value) (t : Nat × Ss) : Nat → Option (Nat × Ss) := fun g => if v.ownBlock = some g then some t else pl g
theorem tagV_old {pl : Nat → Option (Nat × Ss)} {v : Value} {t : Nat × Ss} {n : Nat} (hl : ∀ g, pl g ≠ none → g < n) (hv : ∀ g, v.ownBlock = some g → pl g = some t ∨ n ≤ g) : ∀ g t', pl g = some t' → tagV pl v t g = some t' := fun g t' e => by
  unfold tagV
  split
  · rename_i h
    rcases hv g h with h1 | h1
    · rw [← h1, e]
    · have := hl g (by rw [e]; exact fun e => by cases e)
      omega
  · exact e
theorem tagV_new {pl : Nat → Option (Nat × Ss)} {v : Value} {t : Nat × Ss} : ∀ g, v.ownBlock = some g → tagV pl v t g = some t := fun g h => by
  unfold tagV
  rw [if_pos h]
theorem tagV_or {pl : Nat → Option (Nat × Ss)} {v : Value} {t : Nat × Ss} {g : Nat} (h : tagV pl v t g ≠ none) : pl g ≠ none ∨ v.ownBlock = some g := by
  unfold tagV at h
  split at h
  · rename_i e; exact .inr e
  · exact .inl h
theorem own_lt {w : World} {base size n : Nat} {e : TypeId} {v : Value} {xs : List Value} (h : w.ownsRow base e size v n xs) {g : Nat} (hg : v.ownBlock = some g) : g < w.heap.size := by
  obtain ⟨cur, hc⟩ := own_obj h hg
  exact (Array.getElem?_eq_some_iff.1 hc).1
theorem mem_entX {X : List Xm} {s : Ss} {e : Xm} (h : fnd Xm.s s X = some e) : e ∈ X ∧ e.o.s = s := fnd_some h
theorem mem_entI {X : List Im} {s : Ss} {e : Im} (h : fnd Im.s s X = some e) : e ∈ X ∧ e.i.s = s := fnd_some h
theorem mem_entB {X : List Tp} {s : Int} {e : Tp} (h : fnd Tp.o s X = some e) : e ∈ X ∧ e.o = s := fnd_some h
def upX (o : Og) (v : Value) (e : Xm) : Xm := if e.o.s = o.s then ⟨o, v, e.b⟩ else e
theorem upX_s (o : Og) (v : Value) (e : Xm) : Xm.s (upX o v e) = Xm.s e := by
  unfold upX Xm.s
  split
  · rename_i h; exact h.symm
  · rfl
theorem setK_X (o : Og) (v : Value) (X : List Xm) : setK o.s (oV o v) (X.map Xm.ent) = (X.map (upX o v)).map Xm.ent := by
  unfold setK
  rw [List.map_map, List.map_map]
  refine List.map_congr_left (fun e _ => ?_)
  simp only [Function.comp, upX, Xm.ent]
  by_cases q : e.o.s = o.s
  · simp [q]
  · simp [q]
/-- An export is laid into the map. -/
theorem Tw.putX {w w1 : World} {z : Tz} {T : T8} {o : Og} {v : Value} (h : Tw w z T) (hb : Below w.heap.size w w1) (hs : sW o.s) (hr : BO w1 v o.data) (hv : ∀ g, v.ownBlock = some g → (∃ e ∈ z.X, e.o.s = o.s ∧ e.v.ownBlock = some g) ∨ w.heap.size ≤ g) :
    ∃ w2 z', (Instr.mapUpdate 68 (.map (some z.m1)) (sA o.s) (oV o v)).run Tryz.prog w1 = .ok () w2 ∧ Tw w2 z' { T with ex := ins ltS Og.s o T.ex } ∧ Up z z' w w2 := by
  have h1 := h.below hb
  have hv' : ∀ g, v.ownBlock = some g → z.pl g = some (5, o.s) ∨ w.heap.size ≤ g := fun g hg => by
    rcases hv g hg with ⟨e, he, e1, e2⟩ | h2
    · have := (h.pX.r e he).2 g e2
      rw [e1] at this
      exact .inl this
    · exact .inr h2
  have hold := tagV_old (v := v) (t := (5, o.s)) h.lt hv'
  have fin : ∀ (w2 : World) (X : List Xm) (c : Nat), Kl (fun g => g = z.m1) w1 w2 → Mb w2 z.m1 c (X.map Xm.ent) → (∀ e ∈ X, e ∈ z.X ∧ e.o.s ≠ o.s ∨ e.o = o ∧ e.v = v) → (∀ s, (fnd Xm.s s X).map Xm.o = if o.s = s then some o else (fnd Xm.s s z.X).map Xm.o) → Tw w2 { z with X := X, c1 := c, pl := tagV z.pl v (5, o.s) } { T with ex := ins ltS Og.s o T.ex } ∧ Up z { z with X := X, c1 := c, pl := tagV z.pl v (5, o.s) } w w2 := fun w2 X c hk hm hX hf => by
    have kp : ∀ g t, z.pl g = some t → t.1 ≠ 2 → w2.heap[g]? = w1.heap[g]? := fun g t e ht => hk.block g (h1.ltp e) (fun e2 => by subst e2; rw [h.pX.pm] at e; cases e; exact ht rfl)
    refine ⟨⟨(kp _ _ h.px (by simp)).trans h1.box, hold _ _ h.px, ⟨hm, hold _ _ h.pX.pm, fun e he => ?_, ins_srt ordS h.pX.srt, fun s => ?_⟩, h1.pI.keep (fun g t e ht => kp g t e (by omega)) hold, h1.pB.keep (fun g t e ht => kp g t e (by omega)) hold, fun g hg => ?_⟩, rfl, ?_, fun g hg => ?_⟩
    · rcases hX e he with ⟨e1, e2⟩ | ⟨e1, e2⟩
      · have := h1.pX.r e e1
        exact ⟨own_at this.1 (fun g hg => kp g _ (this.2 g hg) (by simp)), fun g hg => hold g _ (this.2 g hg)⟩
      · rw [e1, e2]
        refine ⟨own_at hr (fun g hg => hk.block g (own_lt hr hg) (fun e3 => ?_)), tagV_new⟩
        subst e3
        obtain ⟨cur, hc⟩ := own_obj hr hg
        have := h1.pX.mp.blk
        rw [hc] at this
        cases this
    · rw [fnd_ins ordS h.pX.srt, hf s, h.pX.f s]
    · rcases tagV_or hg with e | e
      · exact Nat.lt_of_lt_of_le (h1.lt g e) hk.size
      · exact Nat.lt_of_lt_of_le (own_lt hr e) hk.size
    · refine (Kl.of_below (S := z.F) hb).then hk (fun g _ e => ?_)
      subst e
      unfold Tz.F
      rw [h.pX.pm]
      exact fun e => by cases e
    · rcases tagV_or hg with e | e
      · exact .inl e
      · rcases hv' g e with e | e
        · exact .inl (by unfold Tz.F; rw [e]; exact fun e => by cases e)
        · exact .inr e
  cases hf : fnd Xm.s o.s z.X with
  | some e =>
    obtain ⟨he, hes⟩ := mem_entX hf
    have hm : e.ent ∈ z.X.map Xm.ent := List.mem_map.mpr ⟨e, he, rfl⟩
    have hk : e.ent.k = o.s := hes
    have hu := updB1 (mt := 68) Tryz.underlying68 h1.pX.mp hm (oV o v)
    rw [hk, setK_X] at hu
    refine ⟨_, _, hu, fin _ _ _ (Kl.setOb _ _ _) (by have := h1.pX.mp.set o.s (oV o v); rw [setK_X] at this; exact this) (fun e' he' => ?_) (fun s => ?_)⟩
    · obtain ⟨a, ha, rfl⟩ := List.mem_map.mp he'
      unfold upX
      split
      · exact .inr ⟨rfl, rfl⟩
      · rename_i q; exact .inl ⟨ha, q⟩
    · rw [fnd_map _ (upX_s o v)]
      split
      · rename_i q
        subst q
        rw [hf]
        simp [upX, hes]
      · rename_i q
        cases hq : fnd Xm.s s z.X with
        | none => rfl
        | some a =>
          have := (mem_entX hq).2
          simp [upX, this, Ne.symm q]
  | none =>
    have hn : ∀ e ∈ z.X.map Xm.ent, e.k ≠ o.s := fun e he => by
      obtain ⟨a, ha, rfl⟩ := List.mem_map.mp he
      exact fnd_none.mp hf a ha
    have hu := updB0 (mt := 68) Tryz.underlying68 h1.pX.mp hs hn (oV o v)
    have ha : z.X.map Xm.ent ++ [(⟨o.s, oV o v, z.c1⟩ : Ent)] = (z.X ++ [(⟨o, v, z.c1⟩ : Xm)]).map Xm.ent := by simp [Xm.ent]
    rw [ha] at hu
    refine ⟨_, _, hu, fin _ _ _ (Kl.setOb _ _ _) (by have := h1.pX.mp.push hs hn (oV o v); rw [ha] at this; exact this) (fun e' he' => ?_) (fun s => ?_)⟩
    · rcases List.mem_append.mp he' with q | q
      · exact .inl ⟨q, fnd_none.mp hf e' q⟩
      · simp at q
        subst q
        exact .inr ⟨rfl, rfl⟩
    · rw [fnd_app]
      split
      · rename_i y hy
        have : s ≠ o.s := fun e => by rw [e, hf] at hy; cases hy
        rw [if_neg (Ne.symm this), hy]
      · rename_i hy
        rw [hy]
        by_cases q : o.s = s
        · simp [Xm.s, q]
        · simp [Xm.s, q]
end Go.Proofs.YtillgoegiplmkaaGreatDoor.B

namespace Go.Proofs.YtillgoegiplmkaaGreatDoor.B
open C
open Go.RowKit Go.Maps
set_option linter.unusedVariables false
set_option linter.unusedSimpArgs false

/-! ### Imports -/
def upI (o : Ic) (hv dv : Value) (e : Im) : Im := if e.i.s = o.s then ⟨o, hv, dv, e.b⟩ else e
theorem upI_s (o : Ic) (hv dv : Value) (e : Im) : Im.s (upI o hv dv e) = Im.s e := by
  unfold upI Im.s
  split
  · rename_i h; exact h.symm
  · rfl
theorem setK_I (o : Ic) (hv dv : Value) (X : List Im) : setK o.s (iV o hv dv) (X.map Im.ent) = (X.map (upI o hv dv)).map Im.ent := by
  unfold setK
  rw [List.map_map, List.map_map]
  refine List.map_congr_left (fun e _ => ?_)
  simp only [Function.comp, upI, Im.ent]
  by_cases q : e.i.s = o.s
  · simp [q]
  · simp [q]
/-- An import is laid into the map; what it had may have been written on. -/
theorem Tw.putI {w w1 : World} {z : Tz} {T : T8} {o : Ic} {hv dv : Value} (h : Tw w z T) (hb : Kl (fun g => ∃ e ∈ z.I, e.i.s = o.s ∧ e.dv.ownBlock = some g) w w1) (hs : sW o.s) (hr : BO w1 dv o.data) (hh : SO w1 hv o.hv) (hd : ∀ g, dv.ownBlock = some g → (∃ e ∈ z.I, e.i.s = o.s ∧ e.dv.ownBlock = some g) ∨ w.heap.size ≤ g) (he : ∀ g, hv.ownBlock = some g → (∃ e ∈ z.I, e.i.s = o.s ∧ e.hv.ownBlock = some g) ∨ w.heap.size ≤ g) :
    ∃ w2 z', (Instr.mapUpdate 69 (.map (some z.m2)) (sA o.s) (iV o hv dv)).run Tryz.prog w1 = .ok () w2 ∧ Tw w2 z' (T.putI o) ∧ Up z z' w w2 := by
  have hS : ∀ g, (∃ e ∈ z.I, e.i.s = o.s ∧ e.dv.ownBlock = some g) → z.pl g = some (6, o.s) := fun g ⟨e, he, e1, e2⟩ => by
    have := (h.pI.r e he).1.2 g e2
    rwa [e1] at this
  have hd' : ∀ g, dv.ownBlock = some g → z.pl g = some (6, o.s) ∨ w.heap.size ≤ g := fun g hg => (hd g hg).imp (hS g) id
  have hu' : ∀ g, hv.ownBlock = some g → z.pl g = some (7, o.s) ∨ w.heap.size ≤ g := fun g hg => by
    rcases he g hg with ⟨e, he, e1, e2⟩ | h2
    · have := (h.pI.r e he).2.2 g e2
      rw [e1] at this
      exact .inl this
    · exact .inr h2
  have hdl : ∀ g, tagV z.pl dv (6, o.s) g ≠ none → g < w1.heap.size := fun g hg => by
    rcases tagV_or hg with e | e
    · exact Nat.lt_of_lt_of_le (h.lt g e) hb.size
    · exact own_lt hr e
  have hne : ∀ g, hv.ownBlock = some g → dv.ownBlock ≠ some g := fun g hg e => by
    obtain ⟨c1, h1⟩ := own_obj hh hg
    obtain ⟨c2, h2⟩ := own_obj hr e
    rw [h1] at h2
    simp at h2
  have hold1 := tagV_old (v := dv) (t := (6, o.s)) h.lt hd'
  have hold : ∀ g t', z.pl g = some t' → tagV (tagV z.pl dv (6, o.s)) hv (7, o.s) g = some t' := fun g t' e => by
    unfold tagV
    split
    · rename_i q
      rcases hu' g q with q | q
      · rw [← q, e]
      · have := h.ltp e
        omega
    · exact hold1 g t' e
  have kp1 : ∀ g t, z.pl g = some t → t ≠ (6, o.s) → w1.heap[g]? = w.heap[g]? := fun g t e ht => hb.block g (h.ltp e) (fun q => by have := hS g q; rw [e] at this; cases this; exact ht rfl)
  have hm1 : Mb w1 z.m2 z.c2 (z.I.map Im.ent) := ⟨(kp1 _ _ h.pI.pm (by simp)).trans h.pI.mp.blk, h.pI.mp.nd, h.pI.mp.bn, h.pI.mp.bl, h.pI.mp.wf⟩
  have fin : ∀ (w2 : World) (X : List Im) (c : Nat), Kl (fun g => g = z.m2) w1 w2 → Mb w2 z.m2 c (X.map Im.ent) → (∀ e ∈ X, e ∈ z.I ∧ e.i.s ≠ o.s ∨ e.i = o ∧ e.hv = hv ∧ e.dv = dv) → (∀ s, (fnd Im.s s X).map Im.i = if o.s = s then some o else (fnd Im.s s z.I).map Im.i) → Tw w2 { z with I := X, c2 := c, pl := tagV (tagV z.pl dv (6, o.s)) hv (7, o.s) } (T.putI o) ∧ Up z { z with I := X, c2 := c, pl := tagV (tagV z.pl dv (6, o.s)) hv (7, o.s) } w w2 := fun w2 X c hk hm hX hf => by
    have kp : ∀ g t, z.pl g = some t → t ≠ (6, o.s) → t.1 ≠ 3 → w2.heap[g]? = w.heap[g]? := fun g t e ht h3 => (hk.block g (Nat.lt_of_lt_of_le (h.ltp e) hb.size) (fun e2 => by subst e2; rw [h.pI.pm] at e; cases e; exact h3 rfl)).trans (kp1 g t e ht)
    have nm : ∀ {sz n : Nat} {ty : TypeId} {v : Value} {xs : List Value}, w1.ownsRow 0 ty sz v n xs → ∀ g, v.ownBlock = some g → w2.heap[g]? = w1.heap[g]? := fun {sz n ty v xs} hw g hg => hk.block g (own_lt hw hg) (fun e3 => by
      subst e3
      obtain ⟨cur, hc⟩ := own_obj hw hg
      have := hm1.blk
      rw [hc] at this
      cases this)
    refine ⟨⟨(kp _ _ h.px (by simp) (by simp)).trans h.box, hold _ _ h.px, h.pX.keep (fun g t e ht => kp g t e (fun q => by subst q; simp at ht) (by omega)) hold, ⟨hm, hold _ _ h.pI.pm, fun e he => ?_, ins_srt ordS h.pI.srt, fun s => ?_⟩, h.pB.keep (fun g t e ht => kp g t e (fun q => by subst q; simp at ht) (by omega)) hold, fun g hg => ?_⟩, rfl, ?_, fun g hg => ?_⟩
    · rcases hX e he with ⟨e1, e2⟩ | ⟨e1, e2, e3⟩
      · have := h.pI.r e e1
        refine ⟨⟨own_at this.1.1 (fun g hg => kp g _ (this.1.2 g hg) (fun q => e2 (by simpa using q)) (by simp)), fun g hg => hold g _ (this.1.2 g hg)⟩, own_at this.2.1 (fun g hg => kp g _ (this.2.2 g hg) (by simp) (by simp)), fun g hg => hold g _ (this.2.2 g hg)⟩
      · rw [e1, e2, e3]
        refine ⟨⟨own_at hr (nm hr), fun g hg => ?_⟩, own_at hh (nm hh), tagV_new⟩
        show tagV (tagV z.pl dv (6, o.s)) hv (7, o.s) g = _
        unfold tagV
        rw [if_neg (fun q => hne g q hg), if_pos hg]
    · show fnd Ic.s s (ins ltS Ic.s o T.im) = _
      rw [fnd_ins ordS h.pI.srt, hf s, h.pI.f s]
    · rcases tagV_or hg with e | e
      · exact Nat.lt_of_lt_of_le (hdl g e) hk.size
      · exact Nat.lt_of_lt_of_le (own_lt hh e) hk.size
    · refine (hb.mono (S' := z.F) (fun g _ q => by unfold Tz.F; rw [hS g q]; exact fun e => by cases e)).then hk (fun g _ e => ?_)
      subst e
      unfold Tz.F
      rw [h.pI.pm]
      exact fun e => by cases e
    · have ff : ∀ t, z.pl g = some t → z.F g := fun t e => by unfold Tz.F; rw [e]; exact fun e => by cases e
      rcases tagV_or hg with e | e
      · rcases tagV_or e with e | e
        · exact .inl e
        · exact (hd' g e).imp (ff _) id
      · exact (hu' g e).imp (ff _) id
  cases hf : fnd Im.s o.s z.I with
  | some e =>
    obtain ⟨he, hes⟩ := mem_entI hf
    have hm : e.ent ∈ z.I.map Im.ent := List.mem_map.mpr ⟨e, he, rfl⟩
    have hk : e.ent.k = o.s := hes
    have hu := updB1 (mt := 69) Tryz.underlying69 hm1 hm (iV o hv dv)
    rw [hk, setK_I] at hu
    refine ⟨_, _, hu, fin _ _ _ (Kl.setOb _ _ _) (by have := hm1.set o.s (iV o hv dv); rw [setK_I] at this; exact this) (fun e' he' => ?_) (fun s => ?_)⟩
    · obtain ⟨a, ha, rfl⟩ := List.mem_map.mp he'
      unfold upI
      split
      · exact .inr ⟨rfl, rfl, rfl⟩
      · rename_i q; exact .inl ⟨ha, q⟩
    · rw [fnd_map _ (upI_s o hv dv)]
      split
      · rename_i q
        subst q
        rw [hf]
        simp [upI, hes]
      · rename_i q
        cases hq : fnd Im.s s z.I with
        | none => rfl
        | some a =>
          have := (mem_entI hq).2
          simp [upI, this, Ne.symm q]
  | none =>
    have hn : ∀ e ∈ z.I.map Im.ent, e.k ≠ o.s := fun e he => by
      obtain ⟨a, ha, rfl⟩ := List.mem_map.mp he
      exact fnd_none.mp hf a ha
    have hu := updB0 (mt := 69) Tryz.underlying69 hm1 hs hn (iV o hv dv)
    have ha : z.I.map Im.ent ++ [(⟨o.s, iV o hv dv, z.c2⟩ : Ent)] = (z.I ++ [(⟨o, hv, dv, z.c2⟩ : Im)]).map Im.ent := by simp [Im.ent]
    rw [ha] at hu
    refine ⟨_, _, hu, fin _ _ _ (Kl.setOb _ _ _) (by have := hm1.push hs hn (iV o hv dv); rw [ha] at this; exact this) (fun e' he' => ?_) (fun s => ?_)⟩
    · rcases List.mem_append.mp he' with q | q
      · exact .inl ⟨q, fnd_none.mp hf e' q⟩
      · simp at q
        subst q
        exact .inr ⟨rfl, rfl, rfl⟩
    · rw [fnd_app]
      split
      · rename_i y hy
        have : s ≠ o.s := fun e => by rw [e, hf] at hy; cases hy
        rw [if_neg (Ne.symm this), hy]
      · rename_i hy
        rw [hy]
        by_cases q : o.s = s
        · simp [Im.s, q]
        · simp [Im.s, q]
end Go.Proofs.YtillgoegiplmkaaGreatDoor.B

namespace Go.Proofs.YtillgoegiplmkaaGreatDoor.B
open C
open Go.RowKit Go.Maps
set_option linter.unusedVariables false
set_option linter.unusedSimpArgs false

/-! ### Tombs -/
def upB (o : Int) (l : List Sp) (v : Value) (e : Tp) : Tp := if e.o = o then ⟨o, l, v, e.b⟩ else e
theorem upB_s (o : Int) (l : List Sp) (v : Value) (e : Tp) : Tp.o (upB o l v e) = Tp.o e := by
  unfold upB
  split
  · rename_i h; exact h.symm
  · rfl
theorem setI_B (o : Int) (l : List Sp) (v : Value) (X : List Tp) : setI o v (X.map Tp.ent) = (X.map (upB o l v)).map Tp.ent := by
  unfold setI
  rw [List.map_map, List.map_map]
  refine List.map_congr_left (fun e _ => ?_)
  simp only [Function.comp, upB, Tp.ent]
  by_cases q : e.o = o
  · simp [q]
  · simp [q]
/-- A tomb is laid into the map. -/
theorem Tw.putB {w w1 : World} {z : Tz} {T : T8} {o : Int} {l : List Sp} {v : Value} (h : Tw w z T) (hb : Below w.heap.size w w1) (hr : SO w1 v l) (hv : ∀ g, v.ownBlock = some g → w.heap.size ≤ g) :
    ∃ w2 z', (Instr.mapUpdate 70 (.map (some z.m3)) (.int .i64 o) v).run Tryz.prog w1 = .ok () w2 ∧ Tw w2 z' { T with tb := ins ltI Prod.fst (o, l) T.tb } ∧ Up z z' w w2 := by
  have h1 := h.below hb
  have hv' : ∀ g, v.ownBlock = some g → z.pl g = some (8, (o, 0)) ∨ w.heap.size ≤ g := fun g hg => .inr (hv g hg)
  have hold := tagV_old (v := v) (t := (8, (o, 0))) h.lt hv'
  have fin : ∀ (w2 : World) (X : List Tp) (c : Nat), Kl (fun g => g = z.m3) w1 w2 → Mj w2 z.m3 c (X.map Tp.ent) → (∀ e ∈ X, e ∈ z.B ∧ e.o ≠ o ∨ e.o = o ∧ e.l = l ∧ e.v = v) → (∀ s, (fnd Tp.o s X).map Tp.tm = if o = s then some (o, l) else (fnd Tp.o s z.B).map Tp.tm) → Tw w2 { z with B := X, c3 := c, pl := tagV z.pl v (8, (o, 0)) } { T with tb := ins ltI Prod.fst (o, l) T.tb } ∧ Up z { z with B := X, c3 := c, pl := tagV z.pl v (8, (o, 0)) } w w2 := fun w2 X c hk hm hX hf => by
    have kp : ∀ g t, z.pl g = some t → t.1 ≠ 4 → w2.heap[g]? = w1.heap[g]? := fun g t e ht => hk.block g (h1.ltp e) (fun e2 => by subst e2; rw [h.pB.pm] at e; cases e; exact ht rfl)
    refine ⟨⟨(kp _ _ h.px (by simp)).trans h1.box, hold _ _ h.px, h1.pX.keep (fun g t e ht => kp g t e (by omega)) hold, h1.pI.keep (fun g t e ht => kp g t e (by omega)) hold, ⟨hm, hold _ _ h.pB.pm, fun e he => ?_, ins_srt ordI h.pB.srt, fun s => ?_⟩, fun g hg => ?_⟩, rfl, ?_, fun g hg => ?_⟩
    · rcases hX e he with ⟨e1, e2⟩ | ⟨e1, e2, e3⟩
      · have := h1.pB.r e e1
        exact ⟨own_at this.1 (fun g hg => kp g _ (this.2 g hg) (by simp)), fun g hg => hold g _ (this.2 g hg)⟩
      · rw [e1, e2, e3]
        refine ⟨own_at hr (fun g hg => hk.block g (own_lt hr hg) (fun e3 => ?_)), tagV_new⟩
        subst e3
        obtain ⟨cur, hc⟩ := own_obj hr hg
        have := h1.pB.mp.blk
        rw [hc] at this
        cases this
    · rw [fnd_ins ordI h.pB.srt, hf s, h.pB.f s]
    · rcases tagV_or hg with e | e
      · exact Nat.lt_of_lt_of_le (h1.lt g e) hk.size
      · exact Nat.lt_of_lt_of_le (own_lt hr e) hk.size
    · refine (Kl.of_below (S := z.F) hb).then hk (fun g _ e => ?_)
      subst e
      unfold Tz.F
      rw [h.pB.pm]
      exact fun e => by cases e
    · rcases tagV_or hg with e | e
      · exact .inl e
      · exact .inr (hv g e)
  cases hf : fnd Tp.o o z.B with
  | some e =>
    obtain ⟨he, hes⟩ := mem_entB hf
    have hm : e.ent ∈ z.B.map Tp.ent := List.mem_map.mpr ⟨e, he, rfl⟩
    have hk : e.ent.k = o := hes
    have hu := updI1 (mt := 70) Tryz.underlying70 h1.pB.mp hm v
    rw [hk, setI_B o l] at hu
    refine ⟨_, _, hu, fin _ _ _ (Kl.setOb _ _ _) (by have := h1.pB.mp.set o v; rw [setI_B o l] at this; exact this) (fun e' he' => ?_) (fun s => ?_)⟩
    · obtain ⟨a, ha, rfl⟩ := List.mem_map.mp he'
      unfold upB
      split
      · exact .inr ⟨rfl, rfl, rfl⟩
      · rename_i q; exact .inl ⟨ha, q⟩
    · rw [fnd_map _ (upB_s o l v)]
      split
      · rename_i q
        subst q
        rw [hf]
        simp [upB, hes, Tp.tm]
      · rename_i q
        cases hq : fnd Tp.o s z.B with
        | none => rfl
        | some a =>
          have := (mem_entB hq).2
          simp [upB, this, Ne.symm q]
  | none =>
    have hn : ∀ e ∈ z.B.map Tp.ent, e.k ≠ o := fun e he => by
      obtain ⟨a, ha, rfl⟩ := List.mem_map.mp he
      exact fnd_none.mp hf a ha
    have hu := updI0 (mt := 70) Tryz.underlying70 h1.pB.mp (k := o) trivial hn v
    have ha : z.B.map Tp.ent ++ [(⟨o, v, z.c3⟩ : EnI)] = (z.B ++ [(⟨o, l, v, z.c3⟩ : Tp)]).map Tp.ent := by simp [Tp.ent]
    rw [ha] at hu
    refine ⟨_, _, hu, fin _ _ _ (Kl.setOb _ _ _) (by have := h1.pB.mp.push (k := o) trivial hn v; rw [ha] at this; exact this) (fun e' he' => ?_) (fun s => ?_)⟩
    · rcases List.mem_append.mp he' with q | q
      · exact .inl ⟨q, fnd_none.mp hf e' q⟩
      · simp at q
        subst q
        exact .inr ⟨rfl, rfl, rfl⟩
    · rw [fnd_app]
      split
      · rename_i y hy
        have : s ≠ o := fun e => by rw [e, hf] at hy; cases hy
        rw [if_neg (Ne.symm this), hy]
      · rename_i hy
        rw [hy]
        by_cases q : o = s
        · simp [Tp.tm, q]
        · simp [q]

/-! ### What leaves -/
theorem noS_X (s : Ss) (X : List Xm) : noS s (X.map Xm.ent) = (rm Xm.s s X).map Xm.ent := by
  unfold noS rm
  rw [List.filter_map]
  refine congrArg _ (List.filter_congr (fun e _ => ?_))
  by_cases q : e.o.s = s <;> simp [Xm.ent, Xm.s, q]
theorem noS_I (s : Ss) (X : List Im) : noS s (X.map Im.ent) = (rm Im.s s X).map Im.ent := by
  unfold noS rm
  rw [List.filter_map]
  refine congrArg _ (List.filter_congr (fun e _ => ?_))
  by_cases q : e.i.s = s <;> simp [Im.ent, Im.s, q]
theorem Tw.remX {w : World} {z : Tz} {T : T8} {s : Ss} (h : Tw w z T) (hs : sW s) (ty : TypeId) :
    ∃ w2 z', (Builtin.delete_ #[68, 31] ty #[.map (some z.m1), sA s]).run Tryz.prog w = .ok (.tuple #[]) w2 ∧ Tw w2 z' { T with ex := rm Og.s s T.ex } ∧ Up z z' w w2 := by
  have hu := delB (mt := 68) Tryz.underlying68 h.pX.mp hs ty
  have hm := h.pX.mp.del s
  rw [noS_X] at hu hm
  generalize hw2 : setOb w z.m1 (.map (((rm Xm.s s z.X).map Xm.ent).map em).toArray z.c1) = w2 at hu hm
  have hk : Kl (fun g => g = z.m1) w w2 := by rw [← hw2]; exact Kl.setOb _ _ _
  have kp : ∀ g t, z.pl g = some t → t.1 ≠ 2 → w2.heap[g]? = w.heap[g]? := fun g t e ht => hk.block g (h.ltp e) (fun e2 => by subst e2; rw [h.pX.pm] at e; cases e; exact ht rfl)
  refine ⟨w2, { z with X := rm Xm.s s z.X }, hu, ⟨(kp _ _ h.px (by simp)).trans h.box, h.px, ⟨hm, h.pX.pm, fun e he => ?_, rm_srt h.pX.srt, fun k => ?_⟩, h.pI.keep (fun g t e ht => kp g t e (by omega)) (fun _ _ e => e), h.pB.keep (fun g t e ht => kp g t e (by omega)) (fun _ _ e => e), fun g hg => Nat.lt_of_lt_of_le (h.lt g hg) hk.size⟩, rfl, hk.mono (fun g _ e => ?_), fun g hg => .inl hg⟩
  · have := h.pX.r e (mem_rm.mp he).1
    exact ⟨own_at this.1 (fun g hg => kp g _ (this.2 g hg) (by simp)), this.2⟩
  · rw [fnd_rm, fnd_rm, h.pX.f k]
    split <;> rfl
  · subst e
    unfold Tz.F
    rw [h.pX.pm]
    exact fun e => by cases e
theorem Tw.remI {w : World} {z : Tz} {T : T8} {s : Ss} (h : Tw w z T) (hs : sW s) (ty : TypeId) :
    ∃ w2 z', (Builtin.delete_ #[69, 31] ty #[.map (some z.m2), sA s]).run Tryz.prog w = .ok (.tuple #[]) w2 ∧ Tw w2 z' { T with im := rm Ic.s s T.im } ∧ Up z z' w w2 := by
  have hu := delB (mt := 69) Tryz.underlying69 h.pI.mp hs ty
  have hm := h.pI.mp.del s
  rw [noS_I] at hu hm
  generalize hw2 : setOb w z.m2 (.map (((rm Im.s s z.I).map Im.ent).map em).toArray z.c2) = w2 at hu hm
  have hk : Kl (fun g => g = z.m2) w w2 := by rw [← hw2]; exact Kl.setOb _ _ _
  have kp : ∀ g t, z.pl g = some t → t.1 ≠ 3 → w2.heap[g]? = w.heap[g]? := fun g t e ht => hk.block g (h.ltp e) (fun e2 => by subst e2; rw [h.pI.pm] at e; cases e; exact ht rfl)
  refine ⟨w2, { z with I := rm Im.s s z.I }, hu, ⟨(kp _ _ h.px (by simp)).trans h.box, h.px, h.pX.keep (fun g t e ht => kp g t e (by omega)) (fun _ _ e => e), ⟨hm, h.pI.pm, fun e he => ?_, rm_srt h.pI.srt, fun k => ?_⟩, h.pB.keep (fun g t e ht => kp g t e (by omega)) (fun _ _ e => e), fun g hg => Nat.lt_of_lt_of_le (h.lt g hg) hk.size⟩, rfl, hk.mono (fun g _ e => ?_), fun g hg => .inl hg⟩
  · have := h.pI.r e (mem_rm.mp he).1
    exact ⟨⟨own_at this.1.1 (fun g hg => kp g _ (this.1.2 g hg) (by simp)), this.1.2⟩, own_at this.2.1 (fun g hg => kp g _ (this.2.2 g hg) (by simp)), this.2.2⟩
  · rw [fnd_rm, fnd_rm, h.pI.f k]
    split <;> rfl
  · subst e
    unfold Tz.F
    rw [h.pI.pm]
    exact fun e => by cases e

/-! ### The box -/
theorem Tw.boxed {w w' : World} {z : Tz} {T T' : T8} (h : Tw w z T) (hk : Kl (fun g => g = z.x) w w') (hb : w'.heap[z.x]? = some (.cells #[.int .i64 T'.id, .int .i64 T'.boots, .int .i64 T'.next, .map (some z.m1), .map (some z.m2), .map (some z.m3)] 72 (0, 0))) (e1 : T'.ex = T.ex) (e2 : T'.im = T.im) (e3 : T'.tb = T.tb) : Tw w' z T' ∧ Up z z w w' := by
  have kp : ∀ g t, z.pl g = some t → t.1 ≠ 1 → w'.heap[g]? = w.heap[g]? := fun g t e ht => hk.block g (h.ltp e) (fun e2 => by subst e2; rw [h.px] at e; cases e; exact ht rfl)
  refine ⟨⟨hb, h.px, by rw [e1]; exact h.pX.keep (fun g t e ht => kp g t e (by omega)) (fun _ _ e => e), by rw [e2]; exact h.pI.keep (fun g t e ht => kp g t e (by omega)) (fun _ _ e => e), by rw [e3]; exact h.pB.keep (fun g t e ht => kp g t e (by omega)) (fun _ _ e => e), fun g hg => Nat.lt_of_lt_of_le (h.lt g hg) hk.size⟩, rfl, hk.mono (fun g _ e => ?_), fun g hg => .inl hg⟩
  subst e
  unfold Tz.F
  rw [h.px]
  exact fun e => by cases e
theorem Up.trans {z z' z'' : Tz} {w w' w'' : World} (h : Up z z' w w') (h' : Up z' z'' w' w'') : Up z z'' w w'' :=
  ⟨h'.x.trans h.x, h.k.then h'.k (fun g hg q => (h.f g q).elim id (fun e => by omega)), fun g q => (h'.f g q).elim (h.f g) (fun e => .inr (Nat.le_trans h.k.size e))⟩
theorem Up.below {z : Tz} {w w' : World} (h : Below w.heap.size w w') : Up z z w w' := ⟨rfl, Kl.of_below h, fun g q => .inl q⟩

/-! ### Looking -/
abbrev oV0 : Value := .agg #[.int .i64 0, .int .i64 0, .int .i64 0, .int .i64 0, .int .i64 0, .int .i64 0, .slice none 0 0, .bool false, .int .i64 0]
abbrev iV0 : Value := .agg #[.int .i64 0, .int .i64 0, .int .i64 0, .int .i64 0, .int .i64 0, .slice none 0 0, .slice none 0 0, .bool false, .bool false, .bool false, .bool false, .int .i64 0]
theorem Tw.lookX0 {w : World} {z : Tz} {T : T8} {s : Ss} (h : Tw w z T) (hs : sW s) (hf : T.fe s = none) (c : Bool) : (Instr.lookup 68 (.map (some z.m1)) (sA s) c).run Tryz.prog w = .ok (if c then .tuple #[oV0, .bool false] else oV0) w := by
  refine lookB0 (et := 110) Tryz.underlying68 (by first | exact Tryz.zeroValue110 w | exact Tryz.zeroValue110) h.pX.mp hs (fun e he => ?_) c
  obtain ⟨a, ha, rfl⟩ := List.mem_map.mp he
  have := h.pX.f s
  rw [show fnd Og.s s T.ex = none from hf] at this
  exact fnd_none.mp (Option.map_eq_none_iff.mp this.symm) a ha
theorem Tw.lookX1 {w : World} {z : Tz} {T : T8} {s : Ss} {o : Og} (h : Tw w z T) (hf : T.fe s = some o) : ∃ e ∈ z.X, e.o = o ∧ o.s = s ∧ ∀ c, (Instr.lookup 68 (.map (some z.m1)) (sA s) c).run Tryz.prog w = .ok (if c then .tuple #[oV o e.v, .bool true] else oV o e.v) w := by
  have := h.pX.f s
  rw [show fnd Og.s s T.ex = some o from hf] at this
  obtain ⟨e, h1, h2⟩ := Option.map_eq_some_iff.mp this.symm
  obtain ⟨h3, h4⟩ := mem_entX h1
  subst h2
  refine ⟨e, h3, rfl, h4, fun c => ?_⟩
  have hl := lookB1 (mt := 68) Tryz.underlying68 h.pX.mp (List.mem_map.mpr ⟨e, h3, rfl⟩) c
  rw [show e.ent.k = s from h4] at hl
  exact hl
theorem Tw.lookI0 {w : World} {z : Tz} {T : T8} {s : Ss} (h : Tw w z T) (hs : sW s) (hf : T.fi s = none) (c : Bool) : (Instr.lookup 69 (.map (some z.m2)) (sA s) c).run Tryz.prog w = .ok (if c then .tuple #[iV0, .bool false] else iV0) w := by
  refine lookB0 (et := 63) Tryz.underlying69 (by first | exact Tryz.zeroValue63 w | exact Tryz.zeroValue63) h.pI.mp hs (fun e he => ?_) c
  obtain ⟨a, ha, rfl⟩ := List.mem_map.mp he
  have := h.pI.f s
  rw [show fnd Ic.s s T.im = none from hf] at this
  exact fnd_none.mp (Option.map_eq_none_iff.mp this.symm) a ha
theorem Tw.lookI1 {w : World} {z : Tz} {T : T8} {s : Ss} {o : Ic} (h : Tw w z T) (hf : T.fi s = some o) : ∃ e ∈ z.I, e.i = o ∧ o.s = s ∧ ∀ c, (Instr.lookup 69 (.map (some z.m2)) (sA s) c).run Tryz.prog w = .ok (if c then .tuple #[iV o e.hv e.dv, .bool true] else iV o e.hv e.dv) w := by
  have := h.pI.f s
  rw [show fnd Ic.s s T.im = some o from hf] at this
  obtain ⟨e, h1, h2⟩ := Option.map_eq_some_iff.mp this.symm
  obtain ⟨h3, h4⟩ := mem_entI h1
  subst h2
  refine ⟨e, h3, rfl, h4, fun c => ?_⟩
  have hl := lookB1 (mt := 69) Tryz.underlying69 h.pI.mp (List.mem_map.mpr ⟨e, h3, rfl⟩) c
  rw [show e.ent.k = s from h4] at hl
  exact hl
end Go.Proofs.YtillgoegiplmkaaGreatDoor.B
