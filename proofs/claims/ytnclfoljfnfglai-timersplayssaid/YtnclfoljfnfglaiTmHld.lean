import Derived.Test.YtnclfoljfnfglaiTmTck
namespace Go.Proofs.Ytnclfoljfnfglai
open Go.RowKit Go.Maps
set_option linter.unusedVariables false

/-! ## Peers that are held, and let go -/
def addH (Hs : List Int) (p : Int) : List Int := if p ∈ Hs then Hs else p :: Hs
def delH (Hs : List Int) (p : Int) : List Int := Hs.erase p
theorem mem_addH {Hs : List Int} {p x : Int} : x ∈ addH Hs p ↔ x = p ∨ x ∈ Hs := by
  unfold addH
  split
  · constructor
    · exact .inr
    · rintro (rfl | h) <;> assumption
  · simp
theorem mem_delH {Hs : List Int} (hn : Hs.Nodup) {p x : Int} : x ∈ delH Hs p ↔ x ≠ p ∧ x ∈ Hs := hn.mem_erase_iff
theorem peer_key {p : Int} (hp : kI p = true) : keyOf Try.prog 3 (.int .i64 p) = some (.int .i64 p) := keyOf_int_mk Try.underlying3 (show (Lit.int .i64 p).wf = true from hp)
theorem HD.put {E : DataW Unit} {Hs : List Int} {p : Int} (h : HD E Hs) (hT : Tidy E) (hp : kI p = true) (d : DataW Unit) : HD (E.put (.int .i64 p) d) (addH Hs p) := by
  have hk : WideAt.IsKeyLit (.int .i64 p) := peerK.key (peer_key hp)
  have hs := size_put (k := .int .i64 p) hT d
  rw [h.has p hp, h.len] at hs
  refine ⟨?_, fun x hx => ?_, ?_⟩
  · rw [hs]; unfold addH
    by_cases e : p ∈ Hs <;> simp [e]
  · by_cases e : x = p
    · subst e
      rw [has_put_same hT.isMap hk]
      exact (decide_eq_true (mem_addH.mpr (.inl rfl))).symm
    · rw [has_put_other (by intro e2; exact e (by simpa using e2)), h.has x hx]
      exact decide_eq_decide.mpr ⟨fun h1 => mem_addH.mpr (.inr h1), fun h1 => (mem_addH.mp h1).resolve_left e⟩
  · unfold addH
    split
    · exact h.nd
    · exact List.nodup_cons.mpr ⟨by assumption, h.nd⟩
theorem HD.del {E : DataW Unit} {Hs : List Int} {p : Int} (h : HD E Hs) (hT : Tidy E) (hp : kI p = true) : HD (E.del (.int .i64 p)) (delH Hs p) := by
  have hs := size_del (k := .int .i64 p) hT
  rw [h.has p hp, h.len] at hs
  refine ⟨?_, fun x hx => ?_, h.nd.erase _⟩
  · unfold delH
    by_cases e : p ∈ Hs
    · rw [List.length_erase_of_mem e]
      simp [e] at hs
      omega
    · rw [List.erase_of_not_mem e]
      simp [e] at hs
      omega
  · by_cases e : x = p
    · subst e
      rw [has_del_same]
      exact (decide_eq_false (fun h1 => ((mem_delH h.nd).mp h1).1 rfl)).symm
    · rw [has_del_other (by intro e2; exact e (by simpa using e2)), h.has x hx]
      exact decide_eq_decide.mpr ⟨fun h1 => (mem_delH h.nd).mpr ⟨e, h1⟩, fun h1 => ((mem_delH h.nd).mp h1).2⟩
theorem Tb.ndH {w : World} {p bl bh : Nat} {L : Tl} {Hs : List Int} (h : Tb w p bl bh L Hs) : Hs.Nodup := by obtain ⟨_, _, hE⟩ := h.held; exact hE.nd
/-- Its map of peers was written. -/
theorem Tb.turnH {w w' : World} {p bl bh : Nat} {L : Tl} {Hs Hs' : List Int} (h : Tb w p bl bh L Hs) {E' : DataW Unit} {n' : Nat} (ho : w'.ownsMap Try.prog 3 unitElem bh n' E') (hT : HD E' Hs') (hk : Kq (· = bh) w w') : Tb w' p bl bh L Hs' := by
  obtain ⟨l1, l2, l3⟩ := h.lts
  obtain ⟨n1, n2⟩ := h.nes
  obtain ⟨D, hD, tD⟩ := h.left
  exact ⟨(hk.block p l1 n2).trans h.box, ⟨D, own_block hD (hk.block _ l2 h.ne), tD⟩, ⟨E', by rw [← hT.len]; exact own_tight ho, hT⟩, h.ne, h.pos⟩

set_option maxHeartbeats 1000000 in
theorem hold10_any (p bl bh : Nat) (L : Tl) (Hs : List Int) (x : Int) (w : World) (h : Tb w p bl bh L Hs) (hx : kI x = true) (hl : Hs.length < 2199023255552) :
    Calls Try.prog 30 #[.pointer (some ⟨p, 0, none⟩), .int .i64 x] w fun e w' => e = .returned (.tuple #[]) ∧ Tb w' p bl bh L (addH Hs x) ∧ Kq (· = bh) w w' := by
  obtain ⟨E, hE, tE⟩ := h.held
  obtain ⟨w3, hrun, ho3, ht3⟩ := hE.store (t := 80) peerK Try.underlying80 (by unfold maxLen; omega) (peer_key hx) unitElem_mk
  have K3 : Hid (Kq (· = bh) w w3) := (Kq.refl _ _).grown ht3.grown (fun j hj => by cases hj; exact .inl rfl)
  have T3 : Hid (Tb w3 p bl bh L (addH Hs x)) := h.turnH ho3 (tE.put (hE.tidy peerK) hx _) K3.out
  have cb : w.cell? ⟨p, 1, none⟩ = some (.map (some bh)) := h.cell1
  clear hE tE ho3 ht3 h
  go_enter Try.func30, Try.ntmps30
  go_wp2
  go_end0
  exact ⟨rfl, T3.out, K3.out⟩

set_option maxHeartbeats 1000000 in
theorem go10_any (p bl bh : Nat) (L : Tl) (Hs : List Int) (x : Int) (w : World) (h : Tb w p bl bh L Hs) (hx : kI x = true) :
    Calls Try.prog 31 #[.pointer (some ⟨p, 0, none⟩), .int .i64 x] w fun e w' => e = .returned (.tuple #[]) ∧ Tb w' p bl bh L (delH Hs x) ∧ Kq (· = bh) w w' := by
  obtain ⟨E, hE, tE⟩ := h.held
  obtain ⟨w3, hrun, ho3, ht3⟩ := hE.drop (t := 80) peerK Try.underlying80 (peer_key hx) 0
  have K3 : Hid (Kq (· = bh) w w3) := (Kq.refl _ _).grown ht3.grown (fun j hj => by cases hj; exact .inl rfl)
  have T3 : Hid (Tb w3 p bl bh L (delH Hs x)) := h.turnH ho3 (tE.del (hE.tidy peerK) hx) K3.out
  have cb : w.cell? ⟨p, 1, none⟩ = some (.map (some bh)) := h.cell1
  clear hE tE ho3 ht3 h
  go_enter Try.func31, Try.ntmps31
  go_wp2
  go_end0
  exact ⟨rfl, T3.out, K3.out⟩

end Go.Proofs.Ytnclfoljfnfglai
