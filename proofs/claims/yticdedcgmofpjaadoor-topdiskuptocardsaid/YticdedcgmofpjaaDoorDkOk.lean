import Derived.Test.YticdedcgmofpjaaDoorDkPw
import Derived.Test.YticdedcgmofpjaaDoorDkRd
import Derived.Test.YticdedcgmofpjaaDoorDkPc
namespace Go.Proofs.YticdedcgmofpjaaDoor.K
open Go.RowKit
set_option linter.unusedVariables false
set_option linter.unusedSimpArgs false

/-! ## What an act leaves may be -/
structure FsOk (l : List Fl) (B : Nat) : Prop where
  fs : ∀ f ∈ l, f.Ok
  len : l.length ≤ B
  used : usd l ≤ B
theorem Dk.Ok.files {D : Dk} {B : Nat} (h : D.Ok B) : FsOk D.fs B := ⟨h.fs, h.len, h.used⟩
theorem FsOk.up {fs : List Fl} {B C : Nat} (h : FsOk fs B) (hb : B ≤ C) : FsOk fs C := ⟨h.fs, Nat.le_trans h.len hb, Nat.le_trans h.used hb⟩
theorem Dk.Ok.up {D : Dk} {B C : Nat} (h : D.Ok B) (hb : B ≤ C) : D.Ok C := ⟨h.fs, Nat.le_trans h.len hb, Nat.le_trans h.used hb, h.room, h.acts⟩
theorem ok_act {D : Dk} {B C : Nat} {fs : List Fl} (h : D.Ok B) (hf : FsOk fs C) (hb : B ≤ C) : (actD D fs).Ok C := by
  have h' := h.up hb
  unfold actD
  split
  · refine ⟨?_, ?_, ?_, h.room, h.acts⟩ <;> simp only <;> split
    · exact hf.fs
    · exact h'.fs
    · exact hf.len
    · exact h'.len
    · exact hf.used
    · exact h'.used
  · rename_i hb
    refine ⟨hf.fs, hf.len, hf.used, h.room, ?_⟩
    have := h.acts
    simp only
    split
    · rename_i ha
      have h0 : ¬ D.acts = 0 := fun e => hb (by unfold actB; rw [ha, e]; rfl)
      omega
    · omega
theorem fsok_set {fs : List Fl} {B i : Nat} {f g : Fl} (h : FsOk fs B) (hf : fs[i]? = some f) (hg : g.Ok) (hl : g.bs.length ≤ f.bs.length) : FsOk (fs.set i g) B := by
  refine ⟨fun y hy => ?_, by rw [List.length_set]; exact h.len, ?_⟩
  · rcases mem_set hy with h1 | rfl
    · exact h.fs y h1
    · exact hg
  · have := usd_set (g := g) hf
    have := h.used
    omega
theorem fsok_setF {fs : List Fl} {B i : Nat} {g : Fl → Fl} (h : FsOk fs B) (hg : ∀ f, f.Ok → (g f).Ok ∧ (g f).bs.length ≤ f.bs.length) : FsOk (setF fs i g) B := by
  unfold setF
  cases hf : fs[i]? with
  | none => exact h
  | some f =>
    obtain ⟨h1, h2⟩ := hg f (h.fs f (List.mem_of_getElem? hf))
    exact fsok_set h hf h1 h2
theorem usd_erase : ∀ (fs : List Fl) (i : Nat), usd (fs.eraseIdx i) ≤ usd fs
  | [], i => by simp [usd]
  | f :: r, 0 => by simp [usd]
  | f :: r, i + 1 => by
    have := usd_erase r i
    simp only [List.eraseIdx_cons_succ, usd]; omega
theorem fsok_erase {fs : List Fl} {B i : Nat} (h : FsOk fs B) : FsOk (fs.eraseIdx i) B :=
  ⟨fun f hf => h.fs f (List.mem_of_mem_eraseIdx hf), Nat.le_trans (List.length_eraseIdx_le _ _) h.len, Nat.le_trans (usd_erase _ _) h.used⟩
theorem fsok_syn {fs : List Fl} {B i : Nat} (h : FsOk fs B) : FsOk (synF fs i) B :=
  fsok_setF h (fun f hf => ⟨⟨hf.byt, by show (0 : Int) ≤ (f.bs.length : Int); omega, Int.le_refl _⟩, Nat.le_refl _⟩)
theorem fsok_nam {fs : List Fl} {B i : Nat} {s : ByteArray} (h : FsOk fs B) : FsOk (namF fs i s) B :=
  fsok_setF h (fun f hf => ⟨⟨hf.byt, hf.lo, hf.hi⟩, Nat.le_refl _⟩)
theorem fsok_ren {fs : List Fl} {B i : Nat} {s : ByteArray} (h : FsOk fs B) : FsOk (renF fs i s) B := by
  unfold renF
  split
  · split
    · exact fsok_nam h
    · exact fsok_erase (fsok_nam h)
  · exact fsok_nam h
theorem bytey_take {zs : List Int} (h : Bytey zs) (k : Nat) : Bytey (zs.take k) := fun z hz => h z (List.mem_of_mem_take hz)
theorem bytey_app {a b : List Int} (h : Bytey a) (h' : Bytey b) : Bytey (a ++ b) := fun z hz => (List.mem_append.mp hz).elim (h z) (h' z)
theorem fsok_cut {fs : List Fl} {B i : Nat} {N : Int} (h : FsOk fs B) : FsOk (cutF fs i N) B :=
  fsok_setF h (fun f hf => by
    have hk : cutN f N ≤ f.bs.length := by unfold cutN; omega
    refine ⟨⟨bytey_take hf.byt _, by show (0 : Int) ≤ (cutN f N : Int); omega, ?_⟩, ?_⟩
    · show ((cutN f N : Nat) : Int) ≤ ((f.bs.take (cutN f N)).length : Int)
      rw [List.length_take]; omega
    · show (f.bs.take (cutN f N)).length ≤ _
      rw [List.length_take]; omega)
theorem fsok_add {fs : List Fl} {B C : Nat} {s : ByteArray} {zs : List Int} (h : FsOk fs B) (hz : Bytey zs) (hl : zs.length ≤ C) (hc : 1 ≤ C) : FsOk (addF fs s zs) (B + C) := by
  unfold addF
  split
  · split
    · rename_i i _ f hf
      have h0 := h.fs f (List.mem_of_getElem? hf)
      refine ⟨fun y hy => ?_, by rw [List.length_set]; have := h.len; omega, ?_⟩
      · rcases mem_set hy with h1 | rfl
        · exact h.fs y h1
        · exact ⟨bytey_app h0.byt hz, h0.lo, by have := h0.hi; simp only [List.length_append]; omega⟩
      · have := usd_set (g := ⟨f.nm, f.bs ++ zs, f.sf⟩) hf
        simp only [List.length_append] at this
        have := h.used
        omega
    · exact h.up (by omega)
  · refine ⟨fun y hy => ?_, by rw [List.length_append]; have := h.len; simp; omega, ?_⟩
    · rcases List.mem_append.mp hy with h1 | h1
      · exact h.fs y h1
      · simp at h1; subst h1; exact ⟨hz, Int.le_refl _, by show (0 : Int) ≤ (zs.length : Int); omega⟩
    · rw [usd_append]
      have := h.used
      simp only [usd]; omega
theorem ok_file {D : Dk} {B : Nat} {s : ByteArray} {g : Nat → List Fl} (h : D.Ok B) (hg : ∀ i, FsOk (g i) B) : (fileD D s g).1.Ok B := by
  unfold fileD
  split
  · exact h
  · split
    · exact h
    · exact ok_act h (hg _) (Nat.le_refl _)
theorem ok_app {D : Dk} {B C : Nat} {s : ByteArray} {zs : List Int} (h : D.Ok B) (hz : Bytey zs) (hl : zs.length ≤ C) (hc : 1 ≤ C) : (appD D s zs).1.Ok (B + C) := by
  unfold appD
  split
  · exact h.up (by omega)
  · split
    · exact h.up (by omega)
    · exact ok_act h (fsok_add h.files hz hl hc) (by omega)
theorem usd_map_le {g : Fl → Fl} : ∀ (fs : List Fl), (∀ f ∈ fs, (g f).bs.length ≤ f.bs.length) → usd (fs.map g) ≤ usd fs
  | [], _ => by simp [usd]
  | f :: r, h => by
    have h1 := usd_map_le r (fun y hy => h y (List.mem_cons_of_mem _ hy))
    have h2 := h f (List.mem_cons_self ..)
    simp only [List.map_cons, usd]; omega
theorem ok_cr {D : Dk} {B : Nat} {keep : Int} (h : D.Ok B) : (crD D keep).Ok B := by
  have hM : 0 ≤ nn0 keep := by unfold nn0; split <;> omega
  have hq : ∀ f : Fl, f.Ok → 0 ≤ crQ f (nn0 keep) ∧ f.sf + crQ f (nn0 keep) ≤ f.bs.length := fun f hf => by
    have := hf.lo; have := hf.hi
    unfold crQ
    split <;> omega
  refine ⟨fun y hy => ?_, by show (D.fs.map _).length ≤ B; rw [List.length_map]; exact h.len, ?_, h.room, h.acts⟩
  · obtain ⟨f, hf, rfl⟩ := List.mem_map.mp (show y ∈ D.fs.map (cr1 keep) from hy)
    have h0 := h.fs f hf
    have h1 := hq f h0
    have := h0.lo
    refine ⟨bytey_take h0.byt _, by show (0 : Int) ≤ f.sf + crQ f (nn0 keep); omega, ?_⟩
    show f.sf + crQ f (nn0 keep) ≤ ((f.bs.take (f.sf + crQ f (nn0 keep)).toNat).length : Int)
    rw [List.length_take]
    omega
  · exact Nat.le_trans (usd_map_le _ (fun f _ => by show (f.bs.take _).length ≤ _; rw [List.length_take]; omega)) h.used
theorem ok_arm {D : Dk} {B : Nat} {N : Int} {dn : Bool} (h : D.Ok B) (hN : N ≤ 9223372036854775807) : (armD D N dn).Ok B :=
  ⟨h.fs, h.len, h.used, h.room, by show 0 ≤ nn0 N ∧ nn0 N ≤ _; unfold nn0; split <;> omega⟩
theorem ok_dk0 {M : Int} (h : 0 ≤ M ∧ M ≤ 9223372036854775807) : (dk0 M).Ok 0 := ⟨fun f hf => absurd hf (by simp [dk0]), Nat.le_refl _, Nat.le_refl _, h, ⟨Int.le_refl _, by show (0 : Int) ≤ 9223372036854775807; omega⟩⟩
end Go.Proofs.YticdedcgmofpjaaDoor.K
