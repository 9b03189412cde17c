import Derived.Test.YtcfodcioeefbeaaDoorXpH
import Derived.Test.YtcfodcioeefbeaaDoorBkFlM
namespace Go.Proofs.YtcfodcioeefbeaaDoor.X
open Go.RowKit Go.Maps
set_option linter.unusedVariables false
set_option linter.unusedSimpArgs false

/-! ## What is cut -/
theorem ckp_cons (y : Pc) (l : List Pc) : ckp (y :: l) = (if 0 < y.chk then [y] else []) ++ ckp l := by
  unfold ckp
  by_cases h : 0 < y.chk
  · rw [if_pos h, List.filter_cons_of_pos (by simpa using h)]; rfl
  · rw [if_neg h, List.filter_cons_of_neg (by simpa using h)]; rfl
theorem ckp_rise {k : Pk} (ok : k.Ok) {base : Int} (hb : 0 ≤ base ∧ base ≤ 4611686018427322367) : ∀ {l : List Pc} {a nx pl : Int}, FSt k base l a nx pl → (∀ c ∈ (ckp l).map Pc.chk, nx ≤ c) ∧ ((ckp l).map Pc.chk).Nodup
  | [], a, nx, pl, h => ⟨fun c hc => (by cases hc), List.nodup_nil⟩
  | y :: r, a, nx, pl, h => by
    obtain ⟨hp, hf, nx', pl', hk, hs⟩ := h.step ok hb
    obtain ⟨h1, h2⟩ := ckp_rise ok hb hs
    have n0 := h.n0
    rw [ckp_cons]
    by_cases hc : 0 < y.chk
    · have e : y.chk = nx ∧ nx' = nx + 1 := by rcases hk with c | c | c | c | c | c <;> omega
      rw [if_pos hc, List.map_append, List.map_cons, List.map_nil]
      refine ⟨fun c hc => ?_, ?_⟩
      · rcases List.mem_append.mp hc with q | q
        · rw [List.mem_singleton.mp q]; omega
        · have := h1 c q; omega
      · refine List.nodup_append.mpr ⟨by simp, h2, fun c hc d hd e2 => ?_⟩
        rw [List.mem_singleton.mp hc] at e2
        have := h1 d hd
        omega
    · have e : nx ≤ nx' := by rcases hk with c | c | c | c | c | c <;> omega
      rw [if_neg hc, List.nil_append]
      exact ⟨fun c hc => by have := h1 c hc; omega, h2⟩
/-- The end of the red part is a piece's. -/
theorem red_end {k : Pk} (ok : k.Ok) {base : Int} (hb : 0 ≤ base ∧ base ≤ 4611686018427322367) : ∀ {l : List Pc} {a nx pl : Int}, FSt k base l a nx pl → a < k.red → ∃ p ∈ l, p.to = k.red
  | [], a, nx, pl, h, ha => by have := h.done; have := ok.red; omega
  | y :: r, a, nx, pl, h, ha => by
    obtain ⟨hp, hf, nx', pl', hk, hs⟩ := h.step ok hb
    by_cases e : y.to = k.red
    · exact ⟨y, by simp, e⟩
    · obtain ⟨p, hp', e'⟩ := red_end ok hb hs (by rcases hk with c | c | c | c | c | c <;> omega)
      exact ⟨p, by simp [hp'], e'⟩
/-- Each piece: what Make asks; one that ends where the red part does is a checkpoint. -/
theorem cut_pf {k : Pk} (ok : k.Ok) {base : Int} (hb : 0 ≤ base ∧ base ≤ 4611686018427322367) : ∀ {l : List Pc} {a nx pl : Int}, FSt k base l a nx pl → ∀ p ∈ l, PF k p ∧ (p.to = k.red → p.rep = 0 ∧ 0 < p.chk ∧ (p.typ = 2 ∨ p.typ = 3)) ∧ (k.red ≤ p.frm → p.chk = 0)
  | [], a, nx, pl, h, p, hp => by cases hp
  | y :: r, a, nx, pl, h, p, hp => by
    obtain ⟨hpf, hf, nx', pl', hk, hs⟩ := h.step ok hb
    rcases List.mem_cons.mp hp with rfl | hp
    · have := hpf.lt
      have := h.n0
      exact ⟨hpf, fun e => by rcases hk with c | c | c | c | c | c <;> omega, fun e => by rcases hk with c | c | c | c | c | c <;> omega⟩
    · exact cut_pf ok hb hs p hp
/-- What Open takes. -/
structure OpK (k : Pk) (n : Nat) (ret cyc base : Int) (again : Bool) : Prop where
  ok : k.Ok
  hb : 0 ≤ base ∧ base ≤ 4611686018410610687
  ar : again = true → 0 < k.red
  ln : (n : Int) = if again = true then k.red else k.size
  rt : 1 ≤ ret ∧ ret ≤ 100
  cy : 1 ≤ cyc ∧ cyc ≤ 1000
/-- The pieces that are put at first. -/
def OpL (k : Pk) (base : Int) (again : Bool) (P : List Pc) : Prop :=
  if again = true then ∃ p ∈ cutL k base, p.to = k.red ∧ P = [⟨p.typ, p.frm, p.to, base + 1, p.rep⟩] else P = cutL k base
section
variable {k : Pk} {n : Nat} {ret cyc base : Int} {again : Bool} {P : List Pc}
theorem OpK.hb' (h : OpK k n ret cyc base again) : 0 ≤ base ∧ base ≤ 4611686018427322367 := ⟨h.hb.1, by have := h.hb.2; omega⟩
theorem OpK.fst (h : OpK k n ret cyc base again) : FSt k base (cutL k base) 0 (base + 1) 0 := FSt.start h.ok h.hb.1
theorem opl_frs (h : OpK k n ret cyc base again) (hP : OpL k base again P) : Frs [] P := by
  unfold Frs
  rw [List.map_nil, List.nil_append]
  unfold OpL at hP
  cases again
  · rw [if_neg (by simp)] at hP
    rw [hP]
    exact (ckp_rise h.ok h.hb' h.fst).2
  · rw [if_pos rfl] at hP
    obtain ⟨p, hp, e, rfl⟩ := hP
    rw [ckp_cons]
    have := h.hb.1
    rw [if_pos (by simp only; omega)]
    simp [ckp]
theorem opl_ne (h : OpK k n ret cyc base again) (hP : OpL k base again P) : P ≠ [] := by
  unfold OpL at hP
  cases again
  · rw [if_neg (by simp)] at hP
    rw [hP]
    intro e
    have q := h.fst
    rw [e] at q
    have := q.done
    have := h.ok.size
    omega
  · rw [if_pos rfl] at hP
    obtain ⟨p, hp, e, rfl⟩ := hP
    simp
theorem opl_each (h : OpK k n ret cyc base again) (hP : OpL k base again P) : ∀ p ∈ P, pieceB k p = true ∧ p.to ≤ n ∧ 0 ≤ p.frm ∧ (k.red = 0 → p.chk = 0) := fun p hp => by
  have hl := h.ln
  unfold OpL at hP
  cases again
  · rw [if_neg (by simp)] at hP hl
    rw [hP] at hp
    obtain ⟨q, _, q3⟩ := cut_pf h.ok h.hb' h.fst p hp
    exact ⟨q.pc, by rw [hl]; exact q.hi, q.lo, fun e => q3 (by have := q.lo; omega)⟩
  · rw [if_pos rfl] at hP hl
    obtain ⟨p0, hp0, e, rfl⟩ := hP
    rw [List.mem_singleton.mp hp]
    obtain ⟨q, q2, _⟩ := cut_pf h.ok h.hb' h.fst p0 hp0
    obtain ⟨q3, q4, q5⟩ := q2 e
    have hb := h.hb
    have hr := h.ar rfl
    refine ⟨?_, by rw [hl]; simp only; omega, q.lo, fun e2 => by omega⟩
    have hpc := (pieceB_iff k p0).mp q.pc
    rw [pieceB_iff]
    have hasb : asB (base + 1) p0.rep = true := by
      simp [asB, btw]
      omega
    obtain ⟨h0, h1, h2⟩ := hpc
    refine ⟨h0, h1, ?_⟩
    rcases h2 with c | c | c | c | c
    · omega
    · omega
    · exact .inr (.inr (.inl ⟨c.1, c.2.1, c.2.2.1, hasb⟩))
    · omega
    · omega
theorem opl_mk (h : OpK k n ret cyc base again) (hP : OpL k base again P) {zs : List Int} (hz : zs.length = n) : ∀ p ∈ P, (mk k p zs).1 = sgP k p (dat zs p) := fun p hp => by
  obtain ⟨h1, h2, _⟩ := opl_each h hP p hp
  have hs := h.ok.ses
  have hp' := h.ok.pcl
  have hl : ¬ 65536 < zs.length := by
    have h1 := h.ln
    have h2 := h.ok.size
    have h3 := h.ok.red
    split at h1 <;> omega
  unfold mk
  rw [if_neg hl, if_neg (by rw [hs]; simp), if_neg (by rw [hp']; simp), if_neg (by rw [h1]; simp), if_neg (by omega)]
/-- Where there are red bytes, a checkpoint is put. -/
theorem opl_ck (h : OpK k n ret cyc base again) (hP : OpL k base again P) (hr : 0 < k.red) : ckp P ≠ [] := by
  have key : ∃ p ∈ P, 0 < p.chk := by
    unfold OpL at hP
    cases again
    · rw [if_neg (by simp)] at hP
      rw [hP]
      obtain ⟨p, hp, e⟩ := red_end h.ok h.hb' h.fst hr
      exact ⟨p, hp, ((cut_pf h.ok h.hb' h.fst p hp).2.1 e).2.1⟩
    · rw [if_pos rfl] at hP
      obtain ⟨p0, hp0, e, rfl⟩ := hP
      exact ⟨_, List.mem_singleton.mpr rfl, by have := h.hb.1; simp only; omega⟩
  obtain ⟨p, hp, hc⟩ := key
  intro e
  have : p ∈ ckp P := List.mem_filter.mpr ⟨hp, by simpa using hc⟩
  rw [e] at this
  cases this
end
end Go.Proofs.YtcfodcioeefbeaaDoor.X
