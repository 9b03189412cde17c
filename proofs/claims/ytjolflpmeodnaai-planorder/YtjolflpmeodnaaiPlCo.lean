import Derived.Test.YtjolflpmeodnaaiPlMk
import Derived.Laws.OwnMore
import Derived.Maps.AppendAt
namespace Go.Proofs.Ytjolflpmeodnaai
set_option linter.unusedVariables false
open Go.RowKit

/-! ## Rows of contacts -/

def ctL (c : Ct) : List Value := [.int .i64 c.p, .int .i64 c.f, .int .i64 c.t, .int .i64 c.r]
def COwn (w : World) (base : Nat) (v : Value) (l : List Ct) : Prop := w.ownsRow base 33 4 v l.length (l.flatMap ctL)

theorem ctl_len (l : List Ct) : (l.flatMap ctL).length = l.length * 4 := by
  induction l with
  | nil => rfl
  | cons s r ih => simp [ctL, ih]; omega
theorem ctl_one (l : List Ct) : ∀ u ∈ l.flatMap ctL, u.oneCell' = true := by
  intro u hu
  obtain ⟨c, _, hc⟩ := List.mem_flatMap.mp hu
  simp [ctL] at hc
  rcases hc with rfl | rfl | rfl | rfl <;> rfl
theorem ctl_take (l : List Ct) (k : Nat) : (l.take k).flatMap ctL = (l.flatMap ctL).take (k * 4) := by
  induction l generalizing k with
  | nil => simp
  | cons c l ih =>
    cases k with
    | zero => simp
    | succ k =>
      rw [List.take_succ_cons, List.flatMap_cons, List.flatMap_cons, ih, show (k + 1) * 4 = (ctL c).length + k * 4 by simp [ctL]; omega, List.take_length_add_append]
theorem ctl_drop (l : List Ct) (k : Nat) : (l.drop k).flatMap ctL = (l.flatMap ctL).drop (k * 4) := by
  induction l generalizing k with
  | nil => simp
  | cons c l ih =>
    cases k with
    | zero => simp
    | succ k =>
      rw [List.drop_succ_cons, List.flatMap_cons, ih, show (k + 1) * 4 = (ctL c).length + k * 4 by simp [ctL]; omega, List.drop_length_add_append]
theorem ctl_get (l : List Ct) (i : Nat) (c : Ct) (h : l[i]? = some c) : (l.flatMap ctL)[i * 4]? = some (.int .i64 c.p) ∧ (l.flatMap ctL)[i * 4 + 1]? = some (.int .i64 c.f) ∧ (l.flatMap ctL)[i * 4 + 2]? = some (.int .i64 c.t) ∧ (l.flatMap ctL)[i * 4 + 3]? = some (.int .i64 c.r) := by
  induction l generalizing i with
  | nil => simp at h
  | cons s r ih =>
    cases i with
    | zero => simp at h; subst h; simp [ctL]
    | succ i =>
      simp at h
      have := ih i h
      have e : ∀ j, ((s :: r).flatMap ctL)[(i + 1) * 4 + j]? = (r.flatMap ctL)[i * 4 + j]? := fun j => by
        rw [List.flatMap_cons, List.getElem?_append_right (by simp [ctL]; omega)]
        congr 1
        simp [ctL]; omega
      exact ⟨(e 0).trans this.1, (e 1).trans this.2.1, (e 2).trans this.2.2.1, (e 3).trans this.2.2.2⟩
theorem COwn.some {w : World} {base : Nat} {v : Value} {l : List Ct} (h : COwn w base v l) (hn : 0 < l.length) : ∃ g cap, v = .slice (some ⟨g, 0, none⟩) l.length cap ∧ base ≤ g ∧ g < w.heap.size ∧ l.length ≤ cap := by
  obtain ⟨_, ⟨rfl, h0⟩ | ⟨g, cap, cur, rfl, hb, hg, hc, _⟩⟩ := h
  · omega
  · exact ⟨g, cap, rfl, hb, (Array.getElem?_eq_some_iff.mp hg).1, hc⟩
theorem COwn.shape {w : World} {base : Nat} {v : Value} {l : List Ct} (h : COwn w base v l) : ∃ a cap, v = .slice a l.length cap ∧ Cta w a l := by
  have h' := h
  obtain ⟨_, ⟨rfl, h0⟩ | ⟨g, cap, cur, rfl, hb, hg, hc, _⟩⟩ := h
  · have : l = [] := List.eq_nil_of_length_eq_zero h0
    subst this
    exact ⟨none, 0, rfl, .inl rfl⟩
  · refine ⟨_, cap, rfl, .inr ⟨g, 0, rfl, fun i c hc => ?_⟩⟩
    have hi : i < l.length := (List.getElem?_eq_some_iff.mp hc).1
    have q := ctl_get l i c hc
    simp only [Nat.zero_add]
    exact ⟨(World.ownsRow.cellAt h' _ (by omega)).trans q.1, (World.ownsRow.cellAt h' _ (by omega)).trans q.2.1, (World.ownsRow.cellAt h' _ (by omega)).trans q.2.2.1, (World.ownsRow.cellAt h' _ (by omega)).trans q.2.2.2⟩
/-- The cells of contacts that lie somewhere. -/
theorem cta_news {w : World} {g off : Nat} {l : List Ct} (h : ∀ (i : Nat) (c : Ct), l[i]? = some c → w.cell? ⟨g, off + i * 4, none⟩ = some (.int .i64 c.p) ∧ w.cell? ⟨g, off + i * 4 + 1, none⟩ = some (.int .i64 c.f) ∧ w.cell? ⟨g, off + i * 4 + 2, none⟩ = some (.int .i64 c.t) ∧ w.cell? ⟨g, off + i * 4 + 3, none⟩ = some (.int .i64 c.r)) :
    ∀ (j : Nat) u, (l.flatMap ctL)[j]? = some u → w.cell? ((⟨g, off, none⟩ : Addr).add j) = some u := by
  induction l generalizing off with
  | nil => intro j u hj; simp at hj
  | cons c r ih =>
    intro j u hj
    have h0 := h 0 c rfl
    have e : (⟨g, off, none⟩ : Addr).add j = ⟨g, off + j, none⟩ := by unfold Addr.add; split <;> simp_all
    rw [e]
    simp only [Nat.zero_mul, Nat.add_zero] at h0
    match j, hj with
    | 0, hj => simp [ctL] at hj; subst hj; exact h0.1
    | 1, hj => simp [ctL] at hj; subst hj; exact h0.2.1
    | 2, hj => simp [ctL] at hj; subst hj; exact h0.2.2.1
    | 3, hj => simp [ctL] at hj; subst hj; exact h0.2.2.2
    | j + 4, hj =>
      have h1 := ih (off := off + 4) (fun i d hd => by
        have := h (i + 1) d (by simpa using hd)
        rw [show off + (i + 1) * 4 = off + 4 + i * 4 by omega] at this
        exact this) j u (by simpa [ctL] using hj)
      have e1 : (⟨g, off + 4, none⟩ : Addr).add j = ⟨g, off + (j + 4), none⟩ := by
        have : (⟨g, off + 4, none⟩ : Addr).add j = ⟨g, off + 4 + j, none⟩ := by unfold Addr.add; split <;> simp_all
        rw [this]; congr 1; omega
      rw [e1] at h1; exact h1
theorem Try.pinfo_ct : (Try.prog.info? 33).map (fun i => (i.zero, i.size, i.bytes)) = some (some (.agg #[.int .i64 0, .int .i64 0, .int .i64 0, .int .i64 0]), 4, 32) := by kernel_rfl
/-- The cells of a part of a row. -/
theorem own_part {w : World} {base g cap : Nat} {l : List Ct} (h : COwn w base (.slice (some ⟨g, 0, none⟩) l.length cap) l) (k m : Nat) (hk : k + m ≤ l.length) :
    ∀ (j : Nat) u, (((l.drop k).take m).flatMap ctL)[j]? = some u → w.cell? ((⟨g, k * 4, none⟩ : Addr).add j) = some u := by
  intro j u hj
  have e : (⟨g, k * 4, none⟩ : Addr).add j = ⟨g, k * 4 + j, none⟩ := by unfold Addr.add; split <;> simp_all
  have hjl : j < m * 4 := by
    have := (List.getElem?_eq_some_iff.mp hj).1
    rw [ctl_len, List.length_take] at this
    have : min m (l.drop k).length ≤ m := Nat.min_le_left _ _
    omega
  rw [e, World.ownsRow.cellAt h _ (by omega)]
  rw [ctl_take, ctl_drop, List.getElem?_take, if_pos hjl, List.getElem?_drop] at hj
  exact hj
theorem four_new (w : World) (a b c d : Value) (t : TypeId) : ∀ j u, [a, b, c, d][j]? = some u → (w.alloc (.cells #[a, b, c, d] t)).cell? ((⟨w.heap.size, 0, none⟩ : Addr).add j) = some u := by
  intro j u hj
  match j, hj with
  | 0, hj => simp at hj; subst hj; simp [Addr.add]
  | 1, hj => simp at hj; subst hj; simp [Addr.add]
  | 2, hj => simp at hj; subst hj; simp [Addr.add]
  | 3, hj => simp at hj; subst hj; simp [Addr.add]

theorem pl_own_below {w w' : World} {base n sz : Nat} {e : TypeId} {v : Value} {xs : List Value} (h : w.ownsRow base e sz v n xs) (hb : Below w.heap.size w w') : w'.ownsRow base e sz v n xs := by
  have hlt := h.lt
  obtain ⟨h1, h2⟩ := h
  refine ⟨h1, ?_⟩
  rcases h2 with h2 | ⟨g, cap, cur, rfl, hg, hh, r⟩
  · exact .inl h2
  · exact .inr ⟨g, cap, cur, rfl, hg, (hb.block g (hlt g rfl).2).trans hh, r⟩


end Go.Proofs.Ytjolflpmeodnaai
