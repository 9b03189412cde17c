import Derived.Test.YtcfodcioeefbeaaDoorXpJ
namespace Go.Proofs.YtcfodcioeefbeaaDoor.X
open Go.RowKit Go.Maps
set_option linter.unusedVariables false
set_option linter.unusedSimpArgs false

/-! ## What the law's rounds keep, of checkpoints -/
/-- Those whose numbers went out don't wait. -/
structure SnO (CK : List Pc) (r : Int) (done : List Int) (O : List Oc) : Prop where
  p : O.map Oc.p = CK
  ag : ∀ o ∈ O, o.ag = r
  wt : ∀ o ∈ O, o.p.chk ∈ done → o.wt = false
theorem upO_p {c : Int} {f : Oc → Oc} (hf : ∀ o, (f o).p = o.p) (O : List Oc) : (upO c f O).map Oc.p = O.map Oc.p := by
  unfold upO
  rw [List.map_map]
  refine List.map_congr_left (fun o _ => ?_)
  simp only [Function.comp]
  split
  · exact hf o
  · rfl
theorem SnO.step {CK : List Pc} {r : Int} {done : List Int} {O : List Oc} (h : SnO CK r done O) (c : Int) : SnO CK r (done ++ [c]) (upO c (wtO false) O) := by
  refine ⟨(upO_p (f := wtO false) (fun _ => rfl) O).trans h.p, fun o ho => ?_, fun o ho hd => ?_⟩
  · unfold upO at ho
    obtain ⟨o1, h1, rfl⟩ := List.mem_map.mp ho
    split
    · exact h.ag o1 h1
    · exact h.ag o1 h1
  · unfold upO at ho
    obtain ⟨o1, h1, rfl⟩ := List.mem_map.mp ho
    split at hd
    · rename_i e
      rw [if_pos e]
      rfl
    · rename_i e
      rw [if_neg e]
      rcases List.mem_append.mp hd with q | q
      · exact h.wt o1 h1 q
      · exact absurd (List.mem_singleton.mp q) e
theorem snO_iff {CK : List Pc} {r : Int} {done : List Int} {O : List Oc} (h : SnO CK r done O) (c : Int) : snO O c = true ↔ c ∈ CK.map Pc.chk := by
  unfold snO
  rw [List.any_eq_true, ← h.p, List.map_map]
  constructor
  · rintro ⟨o, ho, e⟩
    exact List.mem_map.mpr ⟨o, ho, of_decide_eq_true e⟩
  · intro hc
    obtain ⟨o, ho, e⟩ := List.mem_map.mp hc
    exact ⟨o, ho, decide_eq_true e⟩
/-- So many were sent again. -/
structure LtO (CK : List Pc) (r : Int) (j : Nat) (O : List Oc) : Prop where
  p : O.map Oc.p = CK
  st : ∀ (i : Nat) o, O[i]? = some o → (i < j → o.wt = true ∧ o.ag = r + 1) ∧ (j ≤ i → o.wt = false ∧ o.ag = r)
theorem LtO.start {CK : List Pc} {r : Int} {done : List Int} {O : List Oc} (h : SnO CK r done O) (hd : ∀ p ∈ CK, p.chk ∈ done) : LtO CK r 0 O :=
  ⟨h.p, fun i o ho => ⟨fun q => by omega, fun _ => ⟨h.wt o (List.mem_of_getElem? ho) (hd o.p (by rw [← h.p]; exact List.mem_map.mpr ⟨o, List.mem_of_getElem? ho, rfl⟩)), h.ag o (List.mem_of_getElem? ho)⟩⟩⟩
theorem LtO.at {CK : List Pc} {r : Int} {j : Nat} {O : List Oc} (h : LtO CK r j O) {p : Pc} (hp : CK[j]? = some p) : ∃ o ∈ O, o.p = p ∧ o.wt = false ∧ o.ag = r := by
  rw [← h.p, List.getElem?_map] at hp
  obtain ⟨o, ho, rfl⟩ := Option.map_eq_some_iff.mp hp
  exact ⟨o, List.mem_of_getElem? ho, rfl, (h.st j o ho).2 (Nat.le_refl _)⟩
theorem LtO.step {CK : List Pc} {r : Int} {j : Nat} {O : List Oc} (h : LtO CK r j O) (hn : (CK.map Pc.chk).Nodup) {p : Pc} (hp : CK[j]? = some p) : LtO CK r (j + 1) (upO p.chk agO O) := by
  refine ⟨(upO_p (f := agO) (fun _ => rfl) O).trans h.p, fun i o ho => ?_⟩
  unfold upO at ho
  rw [List.getElem?_map] at ho
  obtain ⟨o1, h1, rfl⟩ := Option.map_eq_some_iff.mp ho
  have hpi : CK[i]? = some o1.p := by rw [← h.p, List.getElem?_map, h1]; rfl
  have key : o1.p.chk = p.chk ↔ i = j := by
    constructor
    · intro e
      have a1 : (CK.map Pc.chk)[i]? = some p.chk := by rw [List.getElem?_map, hpi, ← e]; rfl
      have a2 : (CK.map Pc.chk)[j]? = some p.chk := by rw [List.getElem?_map, hp]; rfl
      obtain ⟨x1, y1⟩ := List.getElem?_eq_some_iff.mp a1
      obtain ⟨x2, y2⟩ := List.getElem?_eq_some_iff.mp a2
      have hn' := List.pairwise_iff_getElem.mp hn
      rcases Nat.lt_trichotomy i j with q | q | q
      · exact absurd (y1.trans y2.symm) (hn' i j x1 x2 q)
      · exact q
      · exact absurd (y2.trans y1.symm) (hn' j i x2 x1 q)
    · rintro rfl
      rw [hpi] at hp
      cases hp
      rfl
  have hs := h.st i o1 h1
  by_cases e : i = j
  · rw [if_pos (key.mpr e)]
    have := hs.2 (by omega)
    exact ⟨fun _ => ⟨rfl, by show o1.ag + 1 = _; rw [this.2]⟩, fun q => by omega⟩
  · rw [if_neg (fun q => e (key.mp q))]
    exact ⟨fun q => hs.1 (by omega), fun q => hs.2 (by omega)⟩
theorem LtO.done {CK : List Pc} {r : Int} {O : List Oc} (h : LtO CK r CK.length O) : SnO CK (r + 1) [] O := by
  refine ⟨h.p, fun o ho => ?_, fun o _ q => by cases q⟩
  obtain ⟨i, hi⟩ := List.getElem?_of_mem ho
  have hl : O.length = CK.length := by rw [← h.p, List.length_map]
  exact ((h.st i o hi).1 (by rw [← hl]; exact (List.getElem?_eq_some_iff.mp hi).1)).2
/-- The red bytes alone: a checkpoint's segment is the same. -/
theorem ck_late {k : Pk} {n : Nat} {ret cyc base : Int} {again : Bool} {P : List Pc} {zs : List Int} (h : OpK k n ret cyc base again) (hP : OpL k base again P) (hz : zs.length = n) : ∀ p ∈ ckp P, (mk k p (zs.take k.red.toNat)).1 = sgP k p (dat (zs.take k.red.toNat) p) := fun p hp => by
  obtain ⟨hpP, hpc⟩ := List.mem_filter.mp hp
  have hc : 0 < p.chk := by simpa using hpc
  obtain ⟨h1, h2, _⟩ := opl_each h hP p hpP
  have hs := h.ok.ses
  have hp' := h.ok.pcl
  have hr := h.ok.red
  have hs2 := h.ok.size
  have hln := h.ln
  have hrl : k.red.toNat ≤ n := by split at hln <;> omega
  have hto : p.to ≤ k.red := by
    obtain ⟨_, _, q⟩ := (pieceB_iff k p).mp h1
    simp only [sil, decide_eq_true_eq] at q
    rcases q with c | c | c | c | c <;> omega
  have hlen : (zs.take k.red.toNat).length = k.red.toNat := by rw [List.length_take, hz]; omega
  unfold mk
  rw [if_neg (by rw [hlen]; omega), if_neg (by rw [hs]; simp), if_neg (by rw [hp']; simp), if_neg (by rw [h1]; simp), if_neg (by rw [hlen]; omega)]
/-- The pieces of the example. -/
theorem awk_P {k : Pk} (hk : k = ⟨1, 5, 7, 1, 1, 80, 0⟩) : OpK k 1 1 1 0 false ∧ ∀ P, OpL k 0 false P → ∃ p, P = [p] ∧ p.typ = 3 ∧ p.chk = 1 ∧ p.frm = 0 ∧ p.to = 1 := by
  subst hk
  have ok : (⟨1, 5, 7, 1, 1, 80, 0⟩ : Pk).Ok := ⟨by decide, by decide, by decide, by decide, by decide, by decide, by decide⟩
  have h : OpK ⟨1, 5, 7, 1, 1, 80, 0⟩ 1 1 1 0 false := ⟨ok, by decide, (fun e => by cases e), rfl, by decide, by decide⟩
  refine ⟨h, fun P hP => ?_⟩
  unfold OpL at hP
  rw [if_neg (by simp)] at hP
  rw [hP]
  have hf := h.fst
  generalize cutL ⟨1, 5, 7, 1, 1, 80, 0⟩ 0 = L at *
  cases L with
  | nil => have := hf.done; simp at this
  | cons y r =>
    obtain ⟨hp, hfr, nx', pl', hk, hs⟩ := hf.step ok h.hb'
    have e1 := hp.lt
    have e2 := hp.hi
    simp only at e1 e2
    have hy : y.to = 1 := by omega
    cases r with
    | cons z r2 =>
      exfalso
      obtain ⟨hp2, hfr2, _⟩ := hs.step ok h.hb'
      have e3 := hp2.lt
      have e4 := hp2.hi
      simp only at e3 e4
      omega
    | nil =>
      refine ⟨y, rfl, ?_⟩
      unfold Kd at hk
      simp only at hk
      rcases hk with c | c | c | c | c | c <;> omega
end Go.Proofs.YtcfodcioeefbeaaDoor.X
