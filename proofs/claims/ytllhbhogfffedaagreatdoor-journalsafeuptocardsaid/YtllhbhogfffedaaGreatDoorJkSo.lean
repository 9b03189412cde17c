import Derived.Test.YtllhbhogfffedaaGreatDoorJkBa
namespace Go.Proofs.YtllhbhogfffedaaGreatDoor.K
open Go.RowKit
set_option linter.unusedVariables false
set_option linter.unusedSimpArgs false

/-- The disk alone, and blocks of the law's own. -/
structure Sd (W : World) (X : Nat → Prop) (w : World) (D : Dk) : Prop where
  bel : Below W.heap.size W w
  hh : w.cell? ⟨W.heap.size + 1, 0, none⟩ = some (.pointer (some ⟨W.heap.size, 0, none⟩))
  xs : ∀ k, X k → W.heap.size ≤ k ∧ k < w.heap.size ∧ k ≠ W.heap.size + 1
  foot : ∃ F : Nat → Prop, Dm w W.heap.size F D ∧ ∀ k, F k → W.heap.size ≤ k ∧ k < w.heap.size ∧ ¬ X k ∧ k ≠ W.heap.size + 1
section
variable {W w V : World} {d j : Nat} {X : Nat → Prop} {D D' : Dk} {J J' : Jl} {aD aF aN : Addr} {B : Nat}
theorem Sk.sd (h : Sk W d j X w D J) : Sd W X w D := by
  obtain ⟨F, h1, h2⟩ := h.foot
  exact ⟨h.bel, h.hh, fun k q => ⟨(h.xs k q).1, (h.xs k q).2.1, (h.xs k q).2.2.1⟩, F, h1, fun k q => ⟨(h2 k q).1, (h2 k q).2.1, (h2 k q).2.2.1, (h2 k q).2.2.2.1⟩⟩
theorem Sd.law (h : Sd W X w D) (hK : Kd X w V) : Sd W (fun k => X k ∨ (w.heap.size ≤ k ∧ k < V.heap.size)) V D := by
  obtain ⟨F, h1, h2⟩ := h.foot
  have hs := hK.size
  have hh := cell_lt h.hh
  have hl := h.bel.size
  have nx : ∀ k, (k = W.heap.size + 1 ∨ k < W.heap.size) → ¬ X k := fun k q hx => by have := h.xs k hx; omega
  refine ⟨h.bel.trans ⟨hK.os, hK.tape, hK.output, hK.size, fun k hk => hK.same k (by omega) (nx k (by omega))⟩, hK.cell h.hh (nx _ (.inl rfl)), fun k q => ?_, F, h1.same (fun k q hk => hK.same k hk (h2 k q).2.2.1), fun k q => ⟨(h2 k q).1, Nat.lt_of_lt_of_le (h2 k q).2.1 hs, fun hx => ?_, (h2 k q).2.2.2⟩⟩
  · rcases q with q | q
    · have := h.xs k q; exact ⟨this.1, by omega, this.2.2⟩
    · exact ⟨by omega, q.2, by omega⟩
  · rcases hx with hx | hx
    · exact (h2 k q).2.2.1 hx
    · have := (h2 k q).2.1; omega
theorem Sd.crash (h : Sd W X w D) (hk : D.Ok B) (hB : B ≤ 1099511627776) (keep : Int) :
    Calls Tryz.prog 21 #[.pointer (some ⟨W.heap.size + 1, 0, none⟩), .int .i64 keep] w fun e w' => (∃ v, e = .returned v) ∧ Sd W X w' (crD D keep) ∧ ∀ k, X k → w'.heap[k]? = w.heap[k]? := by
  obtain ⟨F, h1, h2⟩ := h.foot
  refine (dCrash_any w (W.heap.size + 1) W.heap.size F D keep B h1 hk hB h.hh (fun q => (h2 _ q).2.2.2 rfl)).mono ?_
  rintro e w' ⟨he, hD, hK⟩
  have hs := hK.size
  have hl := h.bel.size
  have hh := cell_lt h.hh
  refine ⟨he, ⟨h.bel.trans ⟨hK.os, hK.tape, hK.output, hK.size, fun k hk => hK.same k (by omega) (fun q => by have := (h2 k q).1; omega)⟩, hK.cell h.hh (fun q => (h2 _ q).2.2.2 rfl), fun k q => ⟨(h.xs k q).1, Nat.lt_of_lt_of_le (h.xs k q).2.1 hs, (h.xs k q).2.2⟩, fc (up F w) w', hD.fc, fun k q => ?_⟩, fun k q => hK.same k (h.xs k q).2.1 (fun f => (h2 k f).2.2.1 q)⟩
  rcases q with ⟨q | q, ql⟩
  · exact ⟨(h2 k q).1, ql, (h2 k q).2.2⟩
  · exact ⟨by omega, ql, fun hx => by have := (h.xs k hx).2.1; omega, by omega⟩
theorem Sk.armed (h : Sk W d j X w D J) (N : Int) (dn : Bool) :
    Calls Tryz.prog 14 #[.pointer (some ⟨W.heap.size + 1, 0, none⟩), .int .i64 N, .bool dn] w fun e w' => (∃ v, e = .returned v) ∧ Sk W d j X w' (armD D N dn) J ∧ ∀ k, X k → w'.heap[k]? = w.heap[k]? := by
  obtain ⟨F, h1, h2⟩ := h.foot
  refine (dArm_any w (W.heap.size + 1) W.heap.size F D N dn h1 h.hh (fun q => (h2 _ q).2.2.2.1 rfl)).mono ?_
  rintro e w' ⟨he, hD, hK⟩
  have hw : Wj w w' d W.heap.size j F (armD D N dn) J := ⟨⟨fc F w', hD.fc, fun k q => ⟨.inl q.1, q.2⟩⟩, (hK.same _ h.jb.lt (fun q => (h2 _ q).2.2.2.2.2 rfl)).trans h.jb, hK.mono (fun k _ q => .inl q)⟩
  obtain ⟨k1, k2⟩ := h.wj h2 hw
  exact ⟨he, k1, k2⟩
/-- An Open on a Disk that is the law's own: the journal that it answers, and what it tells. -/
def OK2 (W : World) (X : Nat → Prop) (d : Nat) (O : Opn) (aD aF aN : Addr) (w : World) (e : Ending) (w' : World) : Prop :=
  ∃ j v os, e = .returned (.tuple #[.pointer (some ⟨j, 0, none⟩), v, .nilIface]) ∧ Sk W d j (fun k => (X k ∧ k ≠ d) ∨ (w.heap.size ≤ k ∧ k < w'.heap.size ∧ ∃ p, p < 3 + 2 * os.length ∧ (rlF v os p).v.ownBlock = some k)) w' O.d ⟨O.n, O.k, false⟩ ∧ (∀ k, X k → w'.heap[k]? = w.heap[k]?) ∧ w.heap.size ≤ w'.heap.size ∧ Rl w' w.heap.size v os ∧ os.map Ro.r = O.l
theorem Sd.opn (h : Sd W X w D) (hs : S0 W aD aF aN) (hk : D.Ok B) (hB : B ≤ 1099511627776) (d : Nat) (hd : X d) (hc : w.cell? ⟨d, 0, none⟩ = some (.pointer (some ⟨W.heap.size, 0, none⟩))) (hr : (opX D).r = 0) :
    Calls Tryz.prog 12 #[.pointer (some ⟨d, 0, none⟩)] w fun e w' => OK2 W X d (opX D) aD aF aN w e w' := by
  obtain ⟨F, h1, h2⟩ := h.foot
  obtain ⟨hS, hT, nT⟩ := hs.snt h.bel (fun k q => (h2 k q).1)
  refine (open_any w d W.heap.size F D B aD aF aN h1 hk hB hc (fun q => (h2 _ q).2.2.1 hd) hS hT nT).mono ?_
  rintro e w' ⟨pj, v, F', rfl, hD, hF, hK, hno, hyes⟩
  obtain ⟨j, os, e1, e2, e3, e4, e5, e6, e7⟩ := hyes hr
  have hsz := hK.size
  have hl := h.bel.size
  have hh := cell_lt h.hh
  have hdl := cell_lt hc
  have hjl : j < w'.heap.size := (Array.getElem?_eq_some_iff.1 e3).1
  have hxd := h.xs d hd
  have nf : ∀ k, k < w.heap.size → ¬ F k → ¬ F' k := fun k hk hn q => (hF k q).elim hn (fun q => by omega)
  subst e1
  refine ⟨j, v, os, by rw [hr]; rfl, ⟨h.bel.trans ⟨hK.os, hK.tape, hK.output, hK.size, fun k hk => hK.same k (by omega) (fun q => by have := (h2 k q).1; omega)⟩, hK.cell h.hh (fun q => (h2 _ q).2.2.2 rfl), hK.cell hc (fun q => (h2 _ q).2.2.1 hd), ⟨hxd.1, by omega⟩, e3, ⟨by omega, by omega⟩, fun k q => ?_, fc F' w', hD.fc, fun k q => ?_⟩, fun k q => hK.same k (h.xs k q).2.1 (fun f => (h2 k f).2.2.1 q), hsz, e5, e6⟩
  · rcases q with ⟨q, qd⟩ | ⟨q1, q2, p, hp, hpk⟩
    · have := h.xs k q; exact ⟨this.1, by omega, this.2.2, qd, by omega⟩
    · exact ⟨by omega, q2, by omega, by omega, (e7 p k hp hpk).2⟩
  · have hfk := hF k q.1
    refine ⟨by rcases hfk with f | f; exact (h2 k f).1; omega, q.2, fun hx => ?_, ?_, ?_, fun e => e4 (e ▸ q.1)⟩
    · rcases hx with ⟨hx, _⟩ | ⟨_, _, p, hp, hpk⟩
      · rcases hfk with f | f
        · exact (h2 k f).2.2.1 hx
        · have := (h.xs k hx).2.1; omega
      · exact (e7 p k hp hpk).1 q.1
    · rcases hfk with f | f
      · exact (h2 k f).2.2.2
      · omega
    · rcases hfk with f | f
      · intro e; exact (h2 k f).2.2.1 (e ▸ hd)
      · omega
end
end Go.Proofs.YtllhbhogfffedaaGreatDoor.K
