import Derived.Test.YtlagadpfnkidjabDoorLayMath
namespace Go.Proofs.YtlagadpfnkidjabDoor

theorem bind_inv {α β : Type} {p : Pr α} {f : α → Pr β} {zs r : List Int} {u : β} (h : (p.bind f) zs = .ok u r) : ∃ v r1, p zs = .ok v r1 ∧ f v r1 = .ok u r := by
  simp only [Pr.bind] at h
  cases hp : p zs with
  | bad e => rw [hp] at h; cases h
  | ok v r1 => rw [hp] at h; exact ⟨v, r1, rfl, h⟩
theorem ret_inv {α : Type} {v u : α} {zs r : List Int} (h : Pr.ret v zs = .ok u r) : u = v ∧ r = zs := by
  simp only [Pr.ret, Res.ok.injEq] at h; exact ⟨h.1.symm, h.2.symm⟩
theorem oct_inv {zs r : List Int} {v : Int} (h : oct zs = .ok v r) : zs = v :: r := by
  cases zs with
  | nil => simp [oct] at h
  | cons c t => simp only [oct, Res.ok.injEq] at h; rw [h.1, h.2]
theorem bytey_right {a b : List Int} (h : Bytey (a ++ b)) : Bytey b := fun z hz => h z (by simp [hz])
theorem bytey_left {a b : List Int} (h : Bytey (a ++ b)) : Bytey a := fun z hz => h z (by simp [hz])
theorem numb_inv {lo hi v : Int} {zs r : List Int} (hb : Bytey zs) (h : numb lo hi zs = .ok v r) : zs = enc v ++ r ∧ lo ≤ v ∧ v ≤ hi ∧ 0 ≤ v ∧ v ≤ 4611686018427387903 := by
  obtain ⟨h0, hv, hl, hh, hm, hr⟩ := numb_ok h
  rcases rd_inv zs hb with ⟨_, h2, h3, h4, h5, _⟩ | ⟨h2, _⟩
  · rw [hv] at h2 h3 h4 h5
    refine ⟨?_, hl, hh, h5, hm⟩
    rw [hr, h2, Int.toNat_natCast, ← h4, List.take_append_drop]
  · exact absurd h0 h2
theorem rowp_inv {n : Int} {zs r d : List Int} (hn : 0 ≤ n) (h : rowp n zs = .ok d r) : zs = d ++ r ∧ (d.length : Int) = n := by
  unfold rowp at h
  split at h
  · cases h
  · simp only [Res.ok.injEq] at h
    obtain ⟨rfl, rfl⟩ := h
    exact ⟨by simp, by simp; omega⟩

def ExIn (l : List Ex) : Prop := ∀ y ∈ l, (0 ≤ y.tag ∧ y.tag ≤ 255) ∧ y.data.length ≤ 200
theorem extsp_inv : ∀ (n : Nat) (acc l : List Ex) (zs r : List Int), Bytey zs → extsp n acc zs = .ok l r → ∃ l', l = acc ++ l' ∧ l'.length = n ∧ zs = encXs l' ++ r ∧ ExIn l'
  | 0, acc, l, zs, r, _, h => by
    obtain ⟨rfl, rfl⟩ := ret_inv h
    exact ⟨[], by simp, rfl, by simp [encXs], fun _ h => by cases h⟩
  | n + 1, acc, l, zs, r, hb, h => by
    rw [extsp] at h
    obtain ⟨t, r1, h1, g1⟩ := bind_inv h
    obtain ⟨k, r2, h2, g2⟩ := bind_inv g1
    obtain ⟨d, r3, h3, g3⟩ := bind_inv g2
    clear h g1 g2
    have e1 := oct_inv h1
    subst e1
    have ht := hb t (by simp)
    have hb1 : Bytey r1 := fun z hz => hb z (by simp [hz])
    obtain ⟨e2, _, k1, k2, _⟩ := numb_inv hb1 h2
    subst e2
    obtain ⟨e3, e4⟩ := rowp_inv k2 h3
    subst e3
    obtain ⟨l', e5, e6, e7, e8⟩ := extsp_inv n _ l r3 r (bytey_right (bytey_right hb1)) g3
    refine ⟨⟨t, d⟩ :: l', by simp [e5], by simp [e6], ?_, ?_⟩
    · rw [e7]; simp [encXs, encX, e4]
    · intro y hy
      rcases List.mem_cons.mp hy with rfl | hy
      · exact ⟨ht, by simp only; omega⟩
      · exact e8 y hy
theorem claimsp_inv (low upp : Int) (hl : 0 ≤ low) : ∀ (n : Nat) (least : Int) (acc cl : List (Int × Int)) (zs r : List Int), Bytey zs → claimsp low upp n least acc zs = .ok cl r → ∃ cl', cl = acc ++ cl' ∧ cl'.length = n ∧ zs = clmB low cl' ++ r ∧ clOk upp (low + least) cl' = true
  | 0, least, acc, cl, zs, r, _, h => by
    obtain ⟨rfl, rfl⟩ := ret_inv h
    exact ⟨[], by simp, rfl, by simp [clmB], rfl⟩
  | n + 1, least, acc, cl, zs, r, hb, h => by
    rw [claimsp] at h
    obtain ⟨f, r1, h1, g1⟩ := bind_inv h
    obtain ⟨k, r2, h2, g2⟩ := bind_inv g1
    clear h g1
    obtain ⟨e1, f1, f2, f3, _⟩ := numb_inv hb h1
    subst e1
    obtain ⟨e2, k1, k2, k3, _⟩ := numb_inv (bytey_right hb) h2
    subst e2
    obtain ⟨cl', e5, e6, e7, e8⟩ := claimsp_inv low upp hl n _ _ cl r2 r (bytey_right (bytey_right hb)) g2
    refine ⟨(low + f, low + f + k) :: cl', by simp [e5], by simp [e6], ?_, ?_⟩
    · rw [e7]
      have a1 : low + f - low = f := by omega
      have a2 : low + f + k - (low + f) = k := by omega
      simp [clmB, jn_two, a1, a2]
    · simp only [clOk, Bool.and_eq_true, decide_eq_true_eq]
      refine ⟨by omega, by omega, by omega, ?_⟩
      rw [show low + f + k + 1 = low + (low + f + k - low + 1) from by omega]; exact e8

end Go.Proofs.YtlagadpfnkidjabDoor
