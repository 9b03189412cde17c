import Derived.Test.YtkkmoplijicmpabDoorGat
import Derived.Test.YtkkmoplijicmpabDoorRgt2
namespace Go.Proofs.YtkkmoplijicmpabDoor.C
open Go.RowKit

theorem UR.sets {l m u : List Sp} {er : Int} (h : UR l m u er) (hl : IsSet l) (hm : IsSet m) : ∃ U, Uni l m U ∧ BR U u er := by
  rcases h with ⟨h, _⟩ | ⟨_, _, U, h1, h2⟩
  · exact absurd ⟨hl, hm⟩ h
  · exact ⟨U, h1, h2⟩
theorem UR.two {l m u : List Sp} {er : Int} (h : UR l m u er) (hl : IsSet l) (hm : IsSet m) : er = 0 ∨ er = 3 := by
  obtain ⟨_, _, ⟨_, h, _⟩ | ⟨_, h, _⟩⟩ := h.sets hl hm <;> omega

theorem groups_same {a b c ab bc x y : List Sp} {g h : Int} (hab : Uni a b ab) (hbc : Uni b c bc) (sa : IsSet a) (sc : IsSet c) (sab : IsSet ab) (sbc : IsSet bc) (hx : UR ab c x g) (hy : UR a bc y h) : x = y ∧ g = h := by
  obtain ⟨U, u1, u2⟩ := hx.sets sab sc
  obtain ⟨V, v1, v2⟩ := hy.sets sa sbc
  have : U = V := u1.rt.uniq v1.rt (fun z => by rw [u1.all, v1.all, hab.all, hbc.all, Bool.or_assoc])
  subst this
  exact u2.uniq v2
theorem self_same {x s : List Sp} {k : Int} (hx : IsSet x) (h : UR x x s k) : s = x ∧ k = 0 := by
  obtain ⟨U, u1, u2⟩ := h.sets hx hx
  have : U = x := u1.rt.uniq hx.2 (fun z => by rw [u1.all, Bool.or_self])
  subst this
  rcases u2 with ⟨_, h1, h2⟩ | ⟨h1, _⟩
  · exact ⟨h2, h1⟩
  · have := hx.1; omega
theorem groups_cover {a x : List Sp} {p : Sp} (sa : IsSet a) (sx : IsSet x) (h : ∀ z, has a z = true → has x z = true) (hp : p ∈ a) : cvB x p = true := by
  have hm := sa.2.mem p hp
  have hk : Asked p := ⟨by omega, by omega, by omega⟩
  have : gps x p = [] := cover_math sx.2 hk (fun z hz => h z (has_mem.mpr ⟨p, hp, inn_iff.mp hz⟩))
  unfold cvB
  rw [setB_iff.mpr sx, askB_iff.mpr hk, this]; rfl
theorem groups_size {a b c ab x : List Sp} (sa : IsSet a) (sb : IsSet b) (sc : IsSet c) (hab : Uni a b ab) (hx : Uni ab c x) : siz x - siz a - siz b ≤ siz c := by
  have h1 := siz_le sa.2 sb.2 hab.rt (fun z hz => by rw [hab.all] at hz; simpa using hz)
  have h2 := siz_le hab.rt sc.2 hx.rt (fun z hz => by rw [hx.all] at hz; simpa using hz)
  omega

end Go.Proofs.YtkkmoplijicmpabDoor.C
