import Derived.Test.YtllhbhogfffedaaGreatDoorRcWrd
import Derived.Maps.AppendAt
namespace Go.Proofs.YtllhbhogfffedaaGreatDoor
open Go.RowKit
set_option linter.unusedVariables false

/-- A row of the call's own: its elements' type and size, its slice, how many, its cells. -/
structure Rwo where
  e : TypeId
  sz : Nat
  v : Value
  n : Nat
  xs : List Value
/-- Rows of the call's own, each in a block that is no other's. -/
structure Fam (S : Nat → Prop) (H : Nat) (w : World) (base N : Nat) (F : Nat → Rwo) : Prop where
  own : ∀ p, p < N → w.ownsRow base (F p).e (F p).sz (F p).v (F p).n (F p).xs
  sep : ∀ p q k, p < N → q < N → (F p).v.ownBlock = some k → (F q).v.ownBlock = some k → p = q
  new : ∀ p k, p < N → (F p).v.ownBlock = some k → S k ∨ H ≤ k
/-- What alone the blocks of S may have changed in. -/
structure Kps (S : Nat → Prop) (w w' : World) : Prop where
  os : w'.os = w.os
  tape : w'.tape = w.tape
  output : w'.output = w.output
  size : w.heap.size ≤ w'.heap.size
  block : ∀ g, g < w.heap.size → ¬ S g → w'.heap[g]? = w.heap[g]?
theorem Kps.refl (S : Nat → Prop) (w : World) : Kps S w w := ⟨rfl, rfl, rfl, Nat.le_refl _, fun _ _ _ => rfl⟩
theorem Kps.after {S : Nat → Prop} {w w1 w2 : World} (h : Kps S w w1) (hb : Below w1.heap.size w1 w2) : Kps S w w2 := by
  have := h.size
  exact ⟨hb.os.trans h.os, hb.tape.trans h.tape, hb.output.trans h.output, Nat.le_trans h.size hb.size, fun g hg hS => (hb.block g (by omega)).trans (h.block g hg hS)⟩
def upF (F : Nat → Rwo) (p : Nat) (x : Rwo) : Nat → Rwo := fun q => if q = p then x else F q
theorem upF_same (F : Nat → Rwo) (p : Nat) (x : Rwo) : upF F p x p = x := if_pos rfl
theorem upF_other (F : Nat → Rwo) {p q : Nat} (x : Rwo) (h : q ≠ p) : upF F p x q = F q := if_neg h
theorem Fam.step {S : Nat → Prop} {H : Nat} {w w' : World} {base N p : Nat} {F : Nat → Rwo} (h : Fam S H w base N F) (hH : H ≤ w.heap.size) (hp : p < N) (x : Rwo) (hg : w.grownBy w' (F p).v.ownBlock) (ho : w'.ownsRow base x.e x.sz x.v x.n x.xs) (hf : ∀ j, x.v.ownBlock = some j → (F p).v.ownBlock = some j ∨ w.heap.size ≤ j) : Fam S H w' base N (upF F p x) := by
  have hlt : ∀ q k, q < N → (F q).v.ownBlock = some k → k < w.heap.size := fun q k hq hk => ((h.own q hq).lt k hk).2
  refine ⟨fun q hq => ?_, fun q q' k hq hq' h1 h2 => ?_, fun q k hq hk => ?_⟩
  rotate_left 2
  · by_cases e : q = p
    · subst e
      rw [upF_same] at hk
      rcases hf k hk with h3 | h3
      · exact h.new q k hq h3
      · exact .inr (Nat.le_trans hH h3)
    · rw [upF_other _ _ e] at hk
      exact h.new q k hq hk
  · by_cases e : q = p
    · subst e; rw [upF_same]; exact ho
    · rw [upF_other _ _ e]
      exact own_keep6 (h.own q hq) hg (fun k hk e2 => e (h.sep q p k hq hp hk e2))
  · by_cases e : q = p
    · by_cases e' : q' = p
      · exact e.trans e'.symm
      · subst e
        rw [upF_same] at h1
        rw [upF_other _ _ e'] at h2
        rcases hf k h1 with h3 | h3
        · exact h.sep _ _ k hq hq' h3 h2
        · have := hlt q' k hq' h2; omega
    · by_cases e' : q' = p
      · subst e'
        rw [upF_same] at h2
        rw [upF_other _ _ e] at h1
        rcases hf k h2 with h3 | h3
        · exact h.sep _ _ k hq hq' h1 h3
        · have := hlt q k hq h1; omega
      · rw [upF_other _ _ e] at h1
        rw [upF_other _ _ e'] at h2
        exact h.sep _ _ k hq hq' h1 h2
theorem Fam.keep {S : Nat → Prop} {H : Nat} {w w' : World} {base N : Nat} {F : Nat → Rwo} (h : Fam S H w base N F) (hb : Below w.heap.size w w') : Fam S H w' base N F :=
  ⟨fun p hp => own_below6 (h.own p hp) hb, h.sep, h.new⟩
theorem Fam.two {S : Nat → Prop} {H : Nat} {w w' : World} {base N p q : Nat} {F : Nat → Rwo} (h : Fam S H w base N F) (hp : p < N) (hq : q < N) (hpq : p ≠ q) (x y : Rwo) (ho : OthV (F p).v.ownBlock (F q).v.ownBlock w w') (hx : w'.ownsRow base x.e x.sz x.v x.n x.xs) (hy : w'.ownsRow base y.e y.sz y.v y.n y.xs) (ex : x.v = (F p).v) (ey : y.v = (F q).v) : Fam S H w' base N (upF (upF F p x) q y) := by
  have hv : ∀ i, (upF (upF F p x) q y i).v = (F i).v := fun i => by
    by_cases e : i = q
    · subst e; rw [upF_same, ey]
    · rw [upF_other _ _ e]
      by_cases e' : i = p
      · subst e'; rw [upF_same, ex]
      · rw [upF_other _ _ e']
  refine ⟨fun i hi => ?_, fun i j k hi hj h1 h2 => ?_, fun i k hi hk => h.new i k hi (by rw [hv] at hk; exact hk)⟩
  · by_cases e : i = q
    · subst e; rw [upF_same]; exact hy
    · rw [upF_other _ _ e]
      by_cases e' : i = p
      · subst e'; rw [upF_same]; exact hx
      · rw [upF_other _ _ e']
        have h0 := h.own i hi
        have hl := h0.lt
        have hs1 := h.sep i p
        have hs2 := h.sep i q
        generalize F i = R at h0 hl hs1 hs2
        obtain ⟨re, rs, rv, rn, rx⟩ := R
        simp only at h0 hl hs1 hs2 ⊢
        obtain ⟨hl1, h3 | ⟨g, cap, cur, rfl, hb, hh, r⟩⟩ := h0
        · exact ⟨hl1, .inl h3⟩
        · refine ⟨hl1, .inr ⟨g, cap, cur, rfl, hb, ?_, r⟩⟩
          rw [ho.block g (hl g rfl).2 (fun e3 => e' (hs1 g hi hp rfl e3.symm)) (fun e3 => e (hs2 g hi hq rfl e3.symm))]; exact hh
  · rw [hv] at h1 h2
    exact h.sep _ _ k hi hj h1 h2
theorem Fam.below {S : Nat → Prop} {w0 w w' : World} {base N p : Nat} {F : Nat → Rwo} (h : Fam S w0.heap.size w base N F) (hp : p < N) (hg : w.grownBy w' (F p).v.ownBlock) (hb : Kps S w0 w) : Kps S w0 w' := by
  have := hb.size
  refine ⟨hg.os.trans hb.os, hg.tape.trans hb.tape, hg.output.trans hb.output, Nat.le_trans hb.size hg.size, fun g hlt hS => (hg.block g (by omega) (fun e => ?_)).trans (hb.block g hlt hS)⟩
  rcases h.new p g hp e.symm with h1 | h1
  · exact hS h1
  · omega
theorem Fam.below2 {S : Nat → Prop} {w0 w w' : World} {base N p q : Nat} {F : Nat → Rwo} (h : Fam S w0.heap.size w base N F) (hp : p < N) (hq : q < N) (ho : OthV (F p).v.ownBlock (F q).v.ownBlock w w') (hb : Kps S w0 w) : Kps S w0 w' := by
  have := hb.size
  refine ⟨ho.os.trans hb.os, ho.tape.trans hb.tape, ho.output.trans hb.output, Nat.le_trans hb.size ho.size, fun g hlt hS => (ho.block g (by omega) (fun e => ?_) (fun e => ?_)).trans (hb.block g hlt hS)⟩
  · rcases h.new p g hp e.symm with h1 | h1
    · exact hS h1
    · omega
  · rcases h.new q g hq e.symm with h1 | h1
    · exact hS h1
    · omega

/-- A record in memory of its own. -/
structure Ro where
  r : Rc
  sa : Option Addr
  da : Option Addr
  sc : Nat
  dc : Nat
abbrev Ro.sv (o : Ro) : Value := .slice o.sa o.r.spans.length o.sc
abbrev Ro.dv (o : Ro) : Value := .slice o.da o.r.data.length o.dc
def dRow (v : Value) (zs : List Int) : Rwo := ⟨5, 1, v, zs.length, zs.map (Value.int .u8)⟩
def sRow (v : Value) (l : List (Int × Int)) : Rwo := ⟨128, 2, v, l.length, l.flatMap C.spc⟩
/-- What is written over a record's lists. -/
def yM (i : Nat) : Int := IntKind.u8.wrap (i : Int)
def zM (i : Nat) : Int := IntKind.i64.wrap (-1 - (i : Int))

/-- Some of the records are written over. -/
structure Spd (S : Nat → Prop) (w0 w : World) (base R : Nat) (X : Rwo) (os : Nat → Ro) (n : Nat) (F : Nat → Rwo) : Prop where
  fam : Fam S w0.heap.size w base (3 + 2 * R) F
  f0 : F 0 = ⟨35, 1, .slice none 0 0, 0, []⟩
  f1 : F 1 = ⟨79, 1, .slice none 0 0, 0, []⟩
  f2 : F 2 = X
  done : ∀ i, i < n → F (3 + 2 * i) = dRow (os i).dv (List.replicate (os i).r.data.length (yM i)) ∧ F (4 + 2 * i) = sRow (os i).sv (List.replicate (os i).r.spans.length (zM i, 0))
  left : ∀ i, n ≤ i → i < R → F (3 + 2 * i) = dRow (os i).dv (os i).r.data ∧ F (4 + 2 * i) = sRow (os i).sv (os i).r.spans
  blw : Kps S w0 w
theorem Spd.step {S : Nat → Prop} {w0 w w' : World} {base R n : Nat} {X : Rwo} {os : Nat → Ro} {F : Nat → Rwo} (h : Spd S w0 w base R X os n F) (hn : n < R) (hB : base ≤ w.heap.size)
    (hs : C.SOwn w' base (os n).sv (List.replicate (os n).r.spans.length (zM n, 0))) (hd : DOwn w' base (os n).dv (List.replicate (os n).r.data.length (yM n))) (ho : OthV (os n).dv.ownBlock (os n).sv.ownBlock w w') :
    ∃ F', Spd S w0 w' base R X os (n + 1) F' := by
  obtain ⟨l1, l2⟩ := h.left n (Nat.le_refl _) hn
  have ho' : OthV (F (3 + 2 * n)).v.ownBlock (F (4 + 2 * n)).v.ownBlock w w' := by rw [l1, l2]; exact ho
  refine ⟨upF (upF F (3 + 2 * n) (dRow (os n).dv (List.replicate (os n).r.data.length (yM n)))) (4 + 2 * n) (sRow (os n).sv (List.replicate (os n).r.spans.length (zM n, 0))), h.fam.two (by omega) (by omega) (by omega) _ _ ho' hd hs (by rw [l1]; rfl) (by rw [l2]; rfl), ?_, ?_, ?_, fun i hi => ?_, fun i hi hi2 => ?_, h.fam.below2 (by omega) (by omega) ho' h.blw⟩
  · rw [upF_other _ _ (by omega), upF_other _ _ (by omega)]; exact h.f0
  · rw [upF_other _ _ (by omega), upF_other _ _ (by omega)]; exact h.f1
  · rw [upF_other _ _ (by omega), upF_other _ _ (by omega)]; exact h.f2
  · by_cases e : i = n
    · subst e
      exact ⟨by rw [upF_other _ _ (by omega), upF_same], by rw [upF_same]⟩
    · rw [upF_other _ _ (by omega), upF_other _ _ (by omega), upF_other _ _ (by omega), upF_other _ _ (by omega)]
      exact h.done i (by omega)
  · rw [upF_other _ _ (by omega), upF_other _ _ (by omega), upF_other _ _ (by omega), upF_other _ _ (by omega)]
    exact h.left i (by omega) hi2

/-- Some of the records' lists have grown, and lie in two rows. -/
structure Grd (S : Nat → Prop) (w0 w : World) (base R : Nat) (X : Rwo) (os : Nat → Ro) (n : Nat) (vd vs : Value) (dl sl : List Value) (F : Nat → Rwo) : Prop where
  fam : Fam S w0.heap.size w base (3 + 2 * R) F
  f0 : F 0 = ⟨35, 1, vd, n, dl⟩
  f1 : F 1 = ⟨79, 1, vs, n, sl⟩
  f2 : F 2 = X
  done : ∀ i, i < n → ∃ d s, dl[i]? = some d ∧ sl[i]? = some s ∧ F (3 + 2 * i) = dRow d (List.replicate ((os i).r.data.length + 9) (yM i)) ∧ F (4 + 2 * i) = sRow s (List.replicate ((os i).r.spans.length + 9) (zM i, 0))
  left : ∀ i, n ≤ i → i < R → F (3 + 2 * i) = dRow (os i).dv (List.replicate (os i).r.data.length (yM i)) ∧ F (4 + 2 * i) = sRow (os i).sv (List.replicate (os i).r.spans.length (zM i, 0))
  blw : Kps S w0 w
/-- One record's lists are growing. -/
structure Gri (S : Nat → Prop) (w0 w : World) (base R : Nat) (X : Rwo) (os : Nat → Ro) (n k : Nat) (vd vs d s : Value) (dl sl : List Value) (F : Nat → Rwo) : Prop where
  fam : Fam S w0.heap.size w base (3 + 2 * R) F
  f0 : F 0 = ⟨35, 1, vd, n, dl⟩
  f1 : F 1 = ⟨79, 1, vs, n, sl⟩
  f2 : F 2 = X
  done : ∀ i, i < n → ∃ d s, dl[i]? = some d ∧ sl[i]? = some s ∧ F (3 + 2 * i) = dRow d (List.replicate ((os i).r.data.length + 9) (yM i)) ∧ F (4 + 2 * i) = sRow s (List.replicate ((os i).r.spans.length + 9) (zM i, 0))
  here : F (3 + 2 * n) = dRow d (List.replicate ((os n).r.data.length + k) (yM n)) ∧ F (4 + 2 * n) = sRow s (List.replicate ((os n).r.spans.length + k) (zM n, 0))
  left : ∀ i, n < i → i < R → F (3 + 2 * i) = dRow (os i).dv (List.replicate (os i).r.data.length (yM i)) ∧ F (4 + 2 * i) = sRow (os i).sv (List.replicate (os i).r.spans.length (zM i, 0))
  blw : Kps S w0 w
theorem Gri.keep {S : Nat → Prop} {w0 w w' : World} {base R n k : Nat} {X : Rwo} {os : Nat → Ro} {vd vs d s : Value} {dl sl : List Value} {F : Nat → Rwo} (h : Gri S w0 w base R X os n k vd vs d s dl sl F) (hb : Below w.heap.size w w') (hB : base ≤ w.heap.size) : Gri S w0 w' base R X os n k vd vs d s dl sl F :=
  ⟨h.fam.keep hb, h.f0, h.f1, h.f2, h.done, h.here, h.left, h.blw.after hb⟩
theorem Gri.dat {S : Nat → Prop} {w0 w : World} {base R n k : Nat} {X : Rwo} {os : Nat → Ro} {vd vs d s : Value} {dl sl : List Value} {F : Nat → Rwo} (h : Gri S w0 w base R X os n k vd vs d s dl sl F) (hn : n < R) : w.ownsRow base 5 1 d ((os n).r.data.length + k) ((List.replicate ((os n).r.data.length + k) (yM n)).map (Value.int .u8)) := by
  have := h.fam.own (3 + 2 * n) (by omega)
  rw [h.here.1] at this
  simpa [dRow] using this
theorem Gri.spn {S : Nat → Prop} {w0 w : World} {base R n k : Nat} {X : Rwo} {os : Nat → Ro} {vd vs d s : Value} {dl sl : List Value} {F : Nat → Rwo} (h : Gri S w0 w base R X os n k vd vs d s dl sl F) (hn : n < R) : w.ownsRow base 128 2 s ((os n).r.spans.length + k) ((List.replicate ((os n).r.spans.length + k) (zM n, (0 : Int))).flatMap C.spc) := by
  have := h.fam.own (4 + 2 * n) (by omega)
  rw [h.here.2] at this
  simpa [sRow] using this
/-- Both lists grew by one. -/
theorem Gri.step {S : Nat → Prop} {w0 w w1 w2 w3 : World} {base R n k : Nat} {X : Rwo} {os : Nat → Ro} {vd vs d s d' s' : Value} {dl sl : List Value} {F : Nat → Rwo} (h : Gri S w0 w base R X os n k vd vs d s dl sl F) (hn : n < R) (hB : base ≤ w.heap.size)
    (o1 : w1.ownsRow base 5 1 d' ((os n).r.data.length + k + 1) ((List.replicate ((os n).r.data.length + k) (yM n)).map (Value.int .u8) ++ [Value.int .u8 (yM n)])) (g1 : w.grownBy w1 d.ownBlock) (t1 : d'.ownBlock = d.ownBlock ∨ d'.ownBlock = some w.heap.size)
    (hb : Below w1.heap.size w1 w2)
    (o2 : w3.ownsRow base 128 2 s' ((os n).r.spans.length + k + 1) ((List.replicate ((os n).r.spans.length + k) (zM n, (0 : Int))).flatMap C.spc ++ [Value.int .i64 (zM n), Value.int .i64 0])) (g2 : w2.grownBy w3 s.ownBlock) (t2 : s'.ownBlock = s.ownBlock ∨ s'.ownBlock = some w2.heap.size) :
    ∃ F', Gri S w0 w3 base R X os n (k + 1) vd vs d' s' dl sl F' := by
  have hs1 := g1.size
  have hs2 := hb.size
  have e1 : (F (3 + 2 * n)).v = d := by rw [h.here.1]; rfl
  have e2 : (F (4 + 2 * n)).v = s := by rw [h.here.2]; rfl
  have q1 : dRow d' (List.replicate ((os n).r.data.length + (k + 1)) (yM n)) = ⟨5, 1, d', (os n).r.data.length + k + 1, (List.replicate ((os n).r.data.length + k) (yM n)).map (Value.int .u8) ++ [Value.int .u8 (yM n)]⟩ := by
    unfold dRow; rw [← Nat.add_assoc, List.replicate_succ']; simp
  have q2 : sRow s' (List.replicate ((os n).r.spans.length + (k + 1)) (zM n, 0)) = ⟨128, 2, s', (os n).r.spans.length + k + 1, (List.replicate ((os n).r.spans.length + k) (zM n, (0 : Int))).flatMap C.spc ++ [Value.int .i64 (zM n), Value.int .i64 0]⟩ := by
    unfold sRow; rw [← Nat.add_assoc, List.replicate_succ']; simp [C.spc]
  have F1 := h.fam.step h.blw.size (p := 3 + 2 * n) (by omega) (dRow d' (List.replicate ((os n).r.data.length + (k + 1)) (yM n))) (by rw [e1]; exact g1) (by rw [q1]; exact o1) (fun j hj => by
    rw [q1] at hj; rw [e1]
    rcases t1 with t | t
    · exact .inl (t ▸ hj)
    · right; rw [show d'.ownBlock = some j from hj] at t; simp at t; omega)
  have B1 := h.fam.below (p := 3 + 2 * n) (by omega) (by rw [e1]; exact g1) h.blw
  have F2 := F1.keep hb
  have e3 : (upF F (3 + 2 * n) (dRow d' (List.replicate ((os n).r.data.length + (k + 1)) (yM n))) (4 + 2 * n)).v = s := by rw [upF_other _ _ (by omega)]; exact e2
  have F3 := F2.step (B1.after hb).size (p := 4 + 2 * n) (by omega) (sRow s' (List.replicate ((os n).r.spans.length + (k + 1)) (zM n, 0))) (by rw [e3]; exact g2) (by rw [q2]; exact o2) (fun j hj => by
    rw [q2] at hj; rw [e3]
    rcases t2 with t | t
    · exact .inl (t ▸ hj)
    · right; rw [show s'.ownBlock = some j from hj] at t; simp at t; omega)
  have B3 := F2.below (p := 4 + 2 * n) (by omega) (by rw [e3]; exact g2) (B1.after hb)
  refine ⟨_, F3, ?_, ?_, ?_, fun i hi => ?_, ⟨?_, ?_⟩, fun i hi hi2 => ?_, B3⟩
  · rw [upF_other _ _ (by omega), upF_other _ _ (by omega)]; exact h.f0
  · rw [upF_other _ _ (by omega), upF_other _ _ (by omega)]; exact h.f1
  · rw [upF_other _ _ (by omega), upF_other _ _ (by omega)]; exact h.f2
  · rw [upF_other _ _ (by omega), upF_other _ _ (by omega), upF_other _ _ (by omega), upF_other _ _ (by omega)]; exact h.done i hi
  · rw [upF_other _ _ (by omega), upF_same]
  · rw [upF_same]
  · rw [upF_other _ _ (by omega), upF_other _ _ (by omega), upF_other _ _ (by omega), upF_other _ _ (by omega)]; exact h.left i hi hi2
end Go.Proofs.YtllhbhogfffedaaGreatDoor
