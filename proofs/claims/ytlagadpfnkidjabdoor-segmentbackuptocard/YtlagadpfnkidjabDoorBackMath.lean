import Derived.Test.YtlagadpfnkidjabDoorInvSeg
namespace Go.Proofs.YtlagadpfnkidjabDoor

theorem xsOk_mk {l : List Ex} {xs : List Xr} (he : l = xs.map Xr.ex) (h : ExIn l) (hl : l.length ≤ 15) : xsOk xs = true := by
  subst he
  unfold xsOk
  rw [Bool.and_eq_true, List.all_eq_true]
  refine ⟨by simpa using hl, fun x hx => ?_⟩
  have h1 := h x.ex (List.mem_map.mpr ⟨x, hx, rfl⟩)
  unfold xOk
  rw [Bool.and_eq_true]
  exact ⟨btw_mk h1.1, by have q := h1.2; simpa [Xr.ex] using q⟩

/-- What is read was laid so. -/
theorem seg_inv (zs r : List Int) (s : Sg) (hb : Bytey zs) (h : segp zs = .ok s r) : shp s.typ % 2 = 1 ∧ zs = layB (shp s.typ) s ++ r ∧ btw s.org 1 4611686018427387903 = true ∧ btw s.num 1 4611686018427387902 = true ∧ ExIn s.head ∧ ExIn s.tail ∧ s.head.length ≤ 15 ∧ s.tail.length ≤ 15 ∧ mayC (shp s.typ) s = true := by
  unfold segp at h
  obtain ⟨t, r1, h1, g1⟩ := bind_inv h
  obtain ⟨o, r2, h2, g2⟩ := bind_inv g1
  obtain ⟨n, r3, h3, g3⟩ := bind_inv g2
  obtain ⟨c, r4, h4, g4⟩ := bind_inv g3
  obtain ⟨hd, r5, h5, g5⟩ := bind_inv g4
  obtain ⟨s1, r6, h6, g6⟩ := bind_inv g5
  obtain ⟨tl, r7, h7, g7⟩ := bind_inv g6
  clear h g1 g2 g3 g4 g5 g6
  obtain ⟨e8, e9⟩ := ret_inv g7
  unfold kindp at h1
  obtain ⟨t', q1, k1, k2⟩ := bind_inv h1
  have e1 := oct_inv k1
  split at k2
  case isFalse => simp [Pr.fail] at k2
  rename_i hodd
  obtain ⟨u1, u2⟩ := ret_inv k2
  subst u1 u2 e1
  have hb1 : Bytey r1 := fun z hz => hb z (by simp [hz])
  obtain ⟨e2, o1, o2, o3, o4⟩ := numb_inv hb1 h2
  subst e2
  obtain ⟨e3, n1, n2, n3, n4⟩ := numb_inv (bytey_right hb1) h3
  subst e3
  have e4 := oct_inv h4
  subst e4
  have hb3 := bytey_right (bytey_right hb1)
  have hc := hb3 c (by simp)
  have hb4 : Bytey r4 := fun z hz => hb3 z (by simp [hz])
  obtain ⟨l1, v1, v2, v3, v4⟩ := extsp_inv _ _ _ _ _ hb4 h5
  rw [List.nil_append] at v1
  subst v1 v3
  have hb5 := bytey_right hb4
  have key : r5 = conB (shp t) s1 ++ r6 ∧ mayC (shp t) s1 = true ∧ s1 = { s1 with typ := t, org := o, num := n, head := hd, tail := [] } ∧ t = s1.typ := by
    have hcl := shp_cases t
    generalize shp t = H at *
    rcases hcl with q | q | q | q | q | q | q <;> subst q
    · simp at hodd
    · exact inv_1 s1 _ r5 r6 hb5 rfl h6
    · exact inv_3 s1 _ r5 r6 hb5 rfl h6
    · exact inv_7 s1 _ r5 r6 hb5 rfl h6
    · exact inv_9 s1 _ r5 r6 hb5 rfl h6
    · exact inv_17 s1 _ r5 r6 hb5 rfl h6
    · exact inv_33 s1 _ r5 r6 hb5 rfl h6
  obtain ⟨w1, w2, w3, w4⟩ := key
  subst w1
  obtain ⟨l2, x1, x2, x3, x4⟩ := extsp_inv _ _ _ _ _ (bytey_right hb5) h7
  rw [List.nil_append] at x1
  subst x1 x3
  subst e9
  obtain ⟨s1t, s1o, s1n, s1h, s1l, s6, s7, s8, s9, s10, s11, s12, s13, s14⟩ := s1
  simp only [Sg.mk.injEq, and_true] at w3 w4
  obtain ⟨q1, q2, q3, q4, q5⟩ := w3
  subst q1 q2 q3 q4 q5 e8
  have hh : c = 16 * (s1h.length : Int) + tl.length := by omega
  have hn2 : s1n ≤ 4611686018427387902 := by unfold mn at n2; omega
  refine ⟨hodd, ?_, btw_mk ⟨o1, o4⟩, btw_mk ⟨n1, hn2⟩, v4, x4, by simp only; omega, by simp only; omega, w2⟩
  have hcb : conB (shp s1t) ⟨s1t, s1o, s1n, s1h, tl, s6, s7, s8, s9, s10, s11, s12, s13, s14⟩ = conB (shp s1t) ⟨s1t, s1o, s1n, s1h, [], s6, s7, s8, s9, s10, s11, s12, s13, s14⟩ := rfl
  simp only [layB, hcb, jn_two, ← hh]
  simp

/-- No error is 0. -/
def NZ {α : Type} (p : Pr α) : Prop := ∀ zs e, p zs = .bad e → e ≠ 0
theorem NZ.bind {α β : Type} {p : Pr α} {f : α → Pr β} (hp : NZ p) (hf : ∀ v, NZ (f v)) : NZ (p.bind f) := by
  intro zs e h
  simp only [Pr.bind] at h
  cases h1 : p zs with
  | bad e1 => rw [h1] at h; simp at h; subst h; exact hp zs e1 h1
  | ok v r => rw [h1] at h; exact hf v r e h
theorem NZ.ret {α : Type} (v : α) : NZ (Pr.ret v) := fun zs e h => by simp [Pr.ret] at h
theorem NZ.fail {α : Type} (e : Int) (he : e ≠ 0) : NZ (Pr.fail (α := α) e) := fun zs e' h => by simp [Pr.fail] at h; omega
theorem NZ.ite {α : Type} {c : Prop} [Decidable c] {p q : Pr α} (hp : NZ p) (hq : NZ q) : NZ (if c then p else q) := by split <;> assumption
theorem NZ.oct : NZ oct := fun zs e h => by
  cases zs with
  | nil => simp [Go.Proofs.YtlagadpfnkidjabDoor.oct] at h; omega
  | cons a b => simp [Go.Proofs.YtlagadpfnkidjabDoor.oct] at h
theorem NZ.numb (lo hi : Int) : NZ (numb lo hi) := fun zs e h => by
  unfold Go.Proofs.YtlagadpfnkidjabDoor.numb at h
  split at h
  · simp at h; omega
  · split at h
    · simp at h; omega
    · split at h
      · cases h
      · simp at h; omega
theorem NZ.rowp (n : Int) : NZ (rowp n) := fun zs e h => by
  unfold Go.Proofs.YtlagadpfnkidjabDoor.rowp at h
  split at h
  · simp at h; omega
  · cases h
theorem NZ.extsp : ∀ (n : Nat) (acc : List Ex), NZ (extsp n acc)
  | 0, _ => NZ.ret _
  | n + 1, _ => NZ.bind NZ.oct fun _ => NZ.bind (NZ.numb _ _) fun _ => NZ.bind (NZ.rowp _) fun _ => NZ.extsp n _
theorem NZ.claimsp (l u : Int) : ∀ (n : Nat) (least : Int) (acc : List (Int × Int)), NZ (claimsp l u n least acc)
  | 0, _, _ => NZ.ret _
  | n + 1, _, _ => NZ.bind (NZ.numb _ _) fun _ => NZ.bind (NZ.numb _ _) fun _ => NZ.claimsp l u n _ _
theorem NZ.contp (h : Int) (s : Sg) : NZ (contp h s) :=
  NZ.ite (NZ.bind (NZ.numb _ _) fun _ => NZ.bind (NZ.numb _ _) fun _ => NZ.bind (NZ.numb _ _) fun _ => NZ.ite (NZ.bind (NZ.numb _ _) fun _ => NZ.bind (NZ.numb _ _) fun _ => NZ.bind (NZ.rowp _) fun _ => NZ.ret _) (NZ.bind (NZ.rowp _) fun _ => NZ.ret _))
    (NZ.ite (NZ.bind (NZ.numb _ _) fun _ => NZ.bind (NZ.numb _ _) fun _ => NZ.bind (NZ.numb _ _) fun _ => NZ.bind (NZ.numb _ _) fun _ => NZ.bind (NZ.numb _ _) fun _ => NZ.bind (NZ.claimsp _ _ _ _ _) fun _ => NZ.ret _)
      (NZ.ite (NZ.bind (NZ.numb _ _) fun _ => NZ.ret _) (NZ.ite (NZ.bind NZ.oct fun _ => NZ.ite (NZ.ret _) (NZ.fail _ (by decide))) (NZ.ret _))))
theorem NZ.segp : NZ segp :=
  NZ.bind (NZ.bind NZ.oct fun _ => NZ.ite (NZ.ret _) (NZ.fail _ (by decide))) fun _ => NZ.bind (NZ.numb _ _) fun _ => NZ.bind (NZ.numb _ _) fun _ => NZ.bind NZ.oct fun _ =>
    NZ.bind (NZ.extsp _ _) fun _ => NZ.bind (NZ.contp _ _) fun _ => NZ.bind (NZ.extsp _ _) fun _ => NZ.ret _

/-- P2.4, the second half, on lists: what is parsed is printed as it stood. -/
theorem back_math (zs : List Int) (hb : Bytey zs) (h : (prs zs).1 = 0) (hx tx : List Xr) (he : (prs zs).2.head = hx.map Xr.ex) (te : (prs zs).2.tail = tx.map Xr.ex) : prt (prs zs).2 hx tx = (0, zs) := by
  have hl : ¬ 8192 < zs.length := by
    intro q
    unfold prs at h
    rw [if_pos q] at h
    simp at h
  cases hp : segp zs with
  | bad e =>
    exfalso
    unfold prs at h
    rw [if_neg hl, hp] at h
    exact NZ.segp zs e hp h
  | ok s r =>
    cases r with
    | cons a b =>
      exfalso
      unfold prs at h
      rw [if_neg hl, hp] at h
      simp at h
    | nil =>
      have hs : prs zs = (0, s) := by unfold prs; rw [if_neg hl, hp]
      rw [hs] at he te ⊢
      obtain ⟨i1, i2, i3, i4, i5, i6, i7, i8, i9⟩ := seg_inv zs [] s hb hp
      rw [List.append_nil] at i2
      unfold prt
      rw [if_neg (by simp only; omega), if_neg (by rw [may_mk i3 i4 (xsOk_mk he i5 i7) (xsOk_mk te i6 i8) i9]; simp), ← i2, if_neg hl]

end Go.Proofs.YtlagadpfnkidjabDoor
