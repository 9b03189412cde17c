import Derived.Test.YtllhbhogfffedaaGreatDoorJkBr
namespace Go.Proofs.YtllhbhogfffedaaGreatDoor.K
open Go.RowKit
set_option linter.unusedVariables false
set_option linter.unusedSimpArgs false

/-! ## Rows of records whose lists lie elsewhere -/
abbrev RIo (w : World) (o : Ro) : Prop := RIn w o.r o.sa o.da o.r.spans.length o.r.data.length o.sc o.dc
def Rr (base : Nat) (w : World) (v : Value) (os : List Ro) : Prop := w.ownsRow base 81 11 v os.length (rlC os)
theorem rlC_len : ∀ (os : List Ro), (rlC os).length = os.length * 11
  | [] => rfl
  | o :: r => by
    have := rlC_len r
    unfold rlC at this ⊢
    rw [List.flatMap_cons, List.length_append, this]
    simp
    omega
theorem rlC_app (a b : List Ro) : rlC (a ++ b) = rlC a ++ rlC b := by unfold rlC; simp
theorem rlC_one : ∀ (os : List Ro), ∀ u ∈ rlC os, u.oneCell' = true
  | [], u, h => by cases h
  | o :: r, u, h => by
    unfold rlC at h
    rw [List.flatMap_cons, List.mem_append] at h
    rcases h with h | h
    · exact rec_one o.r o.sa o.da o.r.spans.length o.r.data.length o.sc o.dc u h
    · exact rlC_one r u h
/-- A cell of such a row belongs to a record of it. -/
theorem rlC_get : ∀ {os : List Ro} {j : Nat} {u : Value}, (rlC os)[j]? = some u → ∃ (i q : Nat) (o : Ro), os[i]? = some o ∧ j = i * 11 + q ∧ (rcC o.r o.sv o.dv)[q]? = some u
  | [], j, u, h => by simp [rlC] at h
  | o :: r, j, u, h => by
    have hl : ((rcC o.r o.sv o.dv).toList).length = 11 := rfl
    unfold rlC at h
    rw [List.flatMap_cons] at h
    rcases Nat.lt_or_ge j 11 with q | q
    · rw [List.getElem?_append_left (by omega)] at h
      exact ⟨0, j, o, rfl, by omega, by rw [Array.getElem?_toList] at h; exact h⟩
    · rw [List.getElem?_append_right (by omega), hl] at h
      obtain ⟨i, q', o', h1, h2, h3⟩ := rlC_get (os := r) h
      exact ⟨i + 1, q', o', h1, by omega, h3⟩
theorem Rr.lin {base : Nat} {w : World} {v : Value} {os : List Ro} (h : Rr base w v os) (hi : ∀ o ∈ os, RIo w o) : ∃ a c, v = .slice a os.length c ∧ RLin w a (os.map Ro.r) := by
  obtain ⟨a, c, rfl⟩ := own_sl h
  refine ⟨a, c, rfl, ?_⟩
  by_cases h0 : os = []
  · subst h0; exact .inl rfl
  · have hl : 0 < os.length := List.length_pos_iff.mpr h0
    obtain ⟨g, cap, hv⟩ := C.own_some h hl
    simp only [Value.slice.injEq] at hv
    obtain ⟨rfl, _, rfl⟩ := hv
    refine .inr ⟨g, 0, rfl, fun i r hr => ?_⟩
    have hil : i < os.length := by
      rcases Nat.lt_or_ge i os.length with q | q
      · exact q
      · rw [List.getElem?_eq_none (by simpa using q)] at hr; cases hr
    have hrr : r = (oAt os i).r := by
      rw [List.getElem?_map, List.getElem?_eq_getElem hil] at hr
      simp at hr
      rw [oAt_get hil, hr]
    subst hrr
    refine ⟨(oAt os i).sa, (oAt os i).da, (oAt os i).sc, (oAt os i).dc, fun j u hj => ?_, ?_⟩
    · have hj2 : j < 11 := (Array.getElem?_eq_some_iff.mp hj).1
      rw [Nat.zero_add, World.ownsRow.cellAt h _ (by omega)]
      exact rlC_at hil j u hj
    · rw [oAt_get hil]
      exact hi _ (List.getElem_mem hil)
/-- A list that lies somewhere, as the cells that it has. -/
structure Lc (w : World) (a : Option Addr) (os : List Ro) : Prop where
  inn : ∀ o ∈ os, RIo w o
  cel : ∀ ad, a = some ad → ∀ j u, (rlC os)[j]? = some u → w.cell? (ad.add j) = some u
  nil : a = none → os = []
theorem lin_ro {w : World} {a : Option Addr} {l : List Rc} (h : RLin w a l) : ∃ os, os.map Ro.r = l ∧ Lc w a os := by
  rcases h with rfl | ⟨g, off, rfl, h⟩
  · exact ⟨[], rfl, ⟨fun o ho => (by cases ho), fun ad _ j u hj => (by simp [rlC] at hj), fun _ => rfl⟩⟩
  · have : ∀ n, n ≤ l.length → ∃ os : List Ro, os.map Ro.r = l.take n ∧ (∀ (i : Nat) o, os[i]? = some o → RIo w o ∧ ∀ j u, (rcC o.r o.sv o.dv)[j]? = some u → w.cell? ⟨g, off + i * 11 + j, none⟩ = some u) := by
      intro n
      induction n with
      | zero => intro _; exact ⟨[], by simp, fun i o ho => by simp at ho⟩
      | succ n ih =>
        intro hn
        obtain ⟨os, h1, h2⟩ := ih (by omega)
        have hr : l[n]? = some l[n] := List.getElem?_eq_getElem (by omega)
        obtain ⟨sa, da, sc, dc, q1, q2⟩ := h n _ hr
        have hol : os.length = n := by have := congrArg List.length h1; simp at this; omega
        refine ⟨os ++ [⟨l[n], sa, da, sc, dc⟩], ?_, fun i o ho => ?_⟩
        · rw [List.map_append, h1, List.take_succ_eq_append_getElem (by omega)]; rfl
        · rcases Nat.lt_or_ge i os.length with q | q
          · rw [List.getElem?_append_left q] at ho
            exact h2 i o ho
          · rw [List.getElem?_append_right q] at ho
            have hi0 : i - os.length = 0 := by
              rcases Nat.eq_zero_or_pos (i - os.length) with z | z
              · exact z
              · rw [List.getElem?_eq_none (by simp; omega)] at ho; cases ho
            rw [hi0] at ho
            simp at ho
            subst ho
            obtain rfl : i = n := by omega
            exact ⟨q2, q1⟩
    obtain ⟨os, h1, h2⟩ := this l.length (Nat.le_refl _)
    rw [List.take_length] at h1
    refine ⟨os, h1, ⟨fun o ho => ?_, fun ad e j u hj => ?_, fun e => by cases e⟩⟩
    · obtain ⟨i, hi⟩ := List.getElem?_of_mem ho
      exact (h2 i o hi).1
    · cases e
      obtain ⟨i, q, o, k1, k2, k3⟩ := rlC_get hj
      have e2 : (⟨g, off, none⟩ : Addr).add j = ⟨g, off + j, none⟩ := by unfold Addr.add; split <;> simp_all
      rw [e2, k2, ← Nat.add_assoc]
      exact (h2 i o k1).2 q u k3
theorem Lc.below {w V : World} {a : Option Addr} {os : List Ro} (h : Lc w a os) (hb : Below w.heap.size w V) : Lc V a os := by
  refine ⟨fun o ho => (h.inn o ho).below hb, fun ad e j u hj => ?_, h.nil⟩
  have hc := h.cel ad e j u hj
  have hl := World.block_lt_of_cell? w (ad.add j) hc
  exact (hb.cell (p := ad.add j) hl).trans hc
theorem Rr.cells {base n c : Nat} {w : World} {a : Option Addr} {os : List Ro} (h : Rr base w (.slice a n c) os) : ∀ ad, a = some ad → ∀ j u, (rlC os)[j]? = some u → w.cell? (ad.add j) = some u := by
  intro ad e j u hj
  subst e
  obtain ⟨hxl, ⟨e1, _⟩ | ⟨g, cap, cur, e1, _⟩⟩ := id h
  · cases e1
  · obtain ⟨e2, _, _⟩ := Value.slice.inj e1
    cases e2
    exact World.ownsRow.cells (g := g) h rfl j u hj
theorem Rr.blk {base : Nat} {w w' : World} {v : Value} {os : List Ro} (h : Rr base w v os) (hb : ∀ g, v.ownBlock = some g → w'.heap[g]? = w.heap[g]?) : Rr base w' v os := d_blk h hb
theorem Rr.nil (base : Nat) (w : World) : Rr base w (.slice none 0 0) [] := World.ownsRow_nil _ _ _ _
theorem Rr.none {base n c : Nat} {w : World} {a : Option Addr} {os : List Ro} (h : Rr base w (.slice a n c) os) : a = none → n = 0 ∧ c = 0 := by
  intro e
  obtain ⟨_, ⟨e1, _⟩ | ⟨g, cap, cur, e1, _⟩⟩ := h
  · obtain ⟨_, e2, e3⟩ := Value.slice.inj e1; exact ⟨e2, e3⟩
  · obtain ⟨e2, _⟩ := Value.slice.inj e1; rw [e] at e2; cases e2

/-! ## The law's world -/
/-- The disk, the journal on it, and blocks of the law's own (X). -/
structure Sk (W : World) (d j : Nat) (X : Nat → Prop) (w : World) (D : Dk) (J : Jl) : Prop where
  bel : Below W.heap.size W w
  hh : w.cell? ⟨W.heap.size + 1, 0, none⟩ = some (.pointer (some ⟨W.heap.size, 0, none⟩))
  dd : w.cell? ⟨d, 0, none⟩ = some (.pointer (some ⟨W.heap.size, 0, none⟩))
  dl : W.heap.size ≤ d ∧ d ≠ j
  jb : Jb w j d J
  jl : W.heap.size ≤ j ∧ j ≠ W.heap.size + 1
  xs : ∀ k, X k → W.heap.size ≤ k ∧ k < w.heap.size ∧ k ≠ W.heap.size + 1 ∧ k ≠ d ∧ k ≠ j
  foot : ∃ F : Nat → Prop, Dm w W.heap.size F D ∧ ∀ k, F k → W.heap.size ≤ k ∧ k < w.heap.size ∧ ¬ X k ∧ k ≠ W.heap.size + 1 ∧ k ≠ d ∧ k ≠ j
section
variable {W w V : World} {d j : Nat} {X : Nat → Prop} {D D' : Dk} {J J' : Jl} {aD aF aN : Addr} {B : Nat}
theorem Sk.later (h : Sk W d j X w D J) (hb : Below w.heap.size w V) : Sk W d j X V D J := by
  obtain ⟨F, h1, h2⟩ := h.foot
  have hs := hb.size
  exact ⟨h.bel.trans (hb.mono h.bel.size), bel_cell hb h.hh, bel_cell hb h.dd, h.dl, (hb.block _ h.jb.lt).trans h.jb, h.jl, fun k q => ⟨(h.xs k q).1, Nat.lt_of_lt_of_le (h.xs k q).2.1 hs, (h.xs k q).2.2⟩, F, h1.below hb, fun k q => ⟨(h2 k q).1, Nat.lt_of_lt_of_le (h2 k q).2.1 hs, (h2 k q).2.2⟩⟩
/-- The law changes what is its own; what is new is its own. -/
theorem Sk.law (h : Sk W d j X w D J) (hK : Kd X w V) : Sk W d j (fun k => X k ∨ (w.heap.size ≤ k ∧ k < V.heap.size)) V D J := by
  obtain ⟨F, h1, h2⟩ := h.foot
  have hs := hK.size
  have hd := cell_lt h.dd
  have hh := cell_lt h.hh
  have hj := h.jb.lt
  have hl := h.bel.size
  have nx : ∀ k, (k = W.heap.size + 1 ∨ k = d ∨ k = j ∨ k < W.heap.size) → ¬ X k := fun k q hx => by have := h.xs k hx; omega
  refine ⟨h.bel.trans ⟨hK.os, hK.tape, hK.output, hK.size, fun k hk => hK.same k (by omega) (nx k (by omega))⟩, hK.cell h.hh (nx _ (.inl rfl)), hK.cell h.dd (nx _ (.inr (.inl rfl))), h.dl, (hK.same _ hj (nx _ (.inr (.inr (.inl rfl))))).trans h.jb, h.jl, fun k q => ?_, F, h1.same (fun k q hk => hK.same k hk (h2 k q).2.2.1), fun k q => ⟨(h2 k q).1, Nat.lt_of_lt_of_le (h2 k q).2.1 hs, fun hx => ?_, (h2 k q).2.2.2⟩⟩
  · rcases q with q | q
    · have := h.xs k q; exact ⟨this.1, by omega, this.2.2⟩
    · exact ⟨by omega, q.2, by omega, by omega, by omega⟩
  · rcases hx with hx | hx
    · exact (h2 k q).2.2.1 hx
    · have := (h2 k q).2.1; omega
theorem Sk.w0 (h : Sk W d j X w D J) (hs : S0 W aD aF aN) : ∃ F, Dm w W.heap.size F D ∧ (∀ k, F k → W.heap.size ≤ k ∧ k < w.heap.size ∧ ¬ X k ∧ k ≠ W.heap.size + 1 ∧ k ≠ d ∧ k ≠ j) ∧ W0 w d W.heap.size j F aD aF aN ∧ Snt w F aD aF aN ∧ Tab6 w := by
  obtain ⟨F, h1, h2⟩ := h.foot
  obtain ⟨k1, k2, k3⟩ := hs.snt h.bel (fun k q => (h2 k q).1)
  have m : ∀ {a : Addr}, (∃ (ca : Array Value) (ta : TypeId), W.heap[a.block]? = some (.cells ca ta (0, 0))) → j ≠ a.block := fun ⟨ca, ta, hh⟩ e => by have := (Array.getElem?_eq_some_iff.1 hh).1; have := h.jl; omega
  have n : ∀ {b : Nat} {v : Value}, W.cell? ⟨b, 0, none⟩ = some v → j ≠ b := fun hc e => by have := cell_lt hc; have := h.jl; omega
  exact ⟨F, h1, h2, ⟨k1, h.dd, fun q => (h2 _ q).2.2.2.2.1 rfl, fun q => (h2 _ q).2.2.2.2.2 rfl, h.dl.2, h.jb.lt, m hs.cD, m hs.cF, m hs.cN, n hs.er.d, n hs.er.f, n hs.er.n⟩, k1, k2⟩
/-- A call of the journal. -/
theorem Sk.wj {F : Nat → Prop} (h : Sk W d j X w D J) (h2 : ∀ k, F k → W.heap.size ≤ k ∧ k < w.heap.size ∧ ¬ X k ∧ k ≠ W.heap.size + 1 ∧ k ≠ d ∧ k ≠ j) (hw : Wj w V d W.heap.size j F D' J') : Sk W d j X V D' J' ∧ ∀ k, X k → V.heap[k]? = w.heap[k]? := by
  obtain ⟨G, g1, g2⟩ := hw.foot
  have hs := hw.kd.size
  have hd := cell_lt h.dd
  have hh := cell_lt h.hh
  have hj := h.jb.lt
  have hl := h.bel.size
  have hdj := h.dl
  have hjj := h.jl
  have hx : ∀ k, X k → V.heap[k]? = w.heap[k]? := fun k hk => hw.kd.same k (h.xs k hk).2.1 (fun q => q.elim (fun q => (h2 k q).2.2.1 hk) (fun q => (h.xs k hk).2.2.2.2 q))
  refine ⟨⟨h.bel.trans ⟨hw.kd.os, hw.kd.tape, hw.kd.output, hs, fun k hk => hw.kd.same k (by omega) (fun q => q.elim (fun q => by have := (h2 k q).1; omega) (fun q => by omega))⟩, hw.kd.cell h.hh (fun q => q.elim (fun q => (h2 _ q).2.2.2.1 rfl) (fun q => hjj.2 q.symm)), hw.kd.cell h.dd (fun q => q.elim (fun q => (h2 _ q).2.2.2.2.1 rfl) (fun q => hdj.2 q)), h.dl, hw.jb, h.jl, fun k q => ⟨(h.xs k q).1, Nat.lt_of_lt_of_le (h.xs k q).2.1 hs, (h.xs k q).2.2⟩, G, g1, fun k q => ?_⟩, hx⟩
  rcases (g2 k q).1 with q1 | q1
  · exact ⟨(h2 k q1).1, (g2 k q).2, (h2 k q1).2.2⟩
  · exact ⟨by omega, (g2 k q).2, fun hk => by have := (h.xs k hk).2.1; omega, by omega, by omega, by omega⟩
theorem Sk.write (h : Sk W d j X w D J) (hs : S0 W aD aF aN) (hk : D.Ok B) (hB : B ≤ 549755813888) (l : List Rc) (a : Option Addr) (n c : Nat) (sync : Bool) (hl : l.length = n) (hn : n ≤ 1048576) (ha : RLin w a l) (hd : ∀ r ∈ l, Bytey r.data) (hJn : J.n ≤ 549755813888) (hJk : J.k ≤ 549755813888) (hlb : frE J l = 0 → (l.flatMap frB).length ≤ 137438953472) :
    Calls Tryz.prog 17 #[.pointer (some ⟨j, 0, none⟩), .slice a n c, .bool sync] w fun e V => e = .returned (evJ aD aF aN (wrX D J l sync).2.2) ∧ Sk W d j X V (wrX D J l sync).1 (wrX D J l sync).2.1 ∧ ∀ k, X k → V.heap[k]? = w.heap[k]? := by
  obtain ⟨F, h1, h2, h3, _, hT⟩ := h.w0 hs
  refine (jwrite_any w d W.heap.size j F D J B aD aF aN l a n c sync h1 hk hB h3 h.jb hT hl hn ha hd hJn hJk hlb).mono ?_
  rintro e V ⟨rfl, hw⟩
  obtain ⟨k1, k2⟩ := h.wj h2 hw
  exact ⟨rfl, k1, k2⟩
theorem Sk.rewrite (h : Sk W d j X w D J) (hs : S0 W aD aF aN) (hk : D.Ok B) (hB : B ≤ 549755813888) (l : List Rc) (a : Option Addr) (n c : Nat) (hl : l.length = n) (hn : n ≤ 1048576) (ha : RLin w a l) (hd : ∀ r ∈ l, Bytey r.data) (hlb : frE J l = 0 → (l.flatMap frB).length ≤ 137438953472) :
    Calls Tryz.prog 18 #[.pointer (some ⟨j, 0, none⟩), .slice a n c] w fun e V => e = .returned (evJ aD aF aN (rwX D J l).2.2) ∧ Sk W d j X V (rwX D J l).1 (rwX D J l).2.1 ∧ ∀ k, X k → V.heap[k]? = w.heap[k]? := by
  obtain ⟨F, h1, h2, h3, _, hT⟩ := h.w0 hs
  refine (jrewrite_any w d W.heap.size j F D J B aD aF aN l a n c h1 hk hB h3 h.jb hT hl hn ha hd hlb).mono ?_
  rintro e V ⟨rfl, hw⟩
  obtain ⟨k1, k2⟩ := h.wj h2 hw
  exact ⟨rfl, k1, k2⟩
end
end Go.Proofs.YtllhbhogfffedaaGreatDoor.K
