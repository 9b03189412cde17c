import Derived.Test.YticdedcgmofpjaaDoorDkFil
namespace Go.Proofs.YticdedcgmofpjaaDoor.K
open Go.RowKit
set_option linter.unusedVariables false
set_option linter.unusedSimpArgs false

/-- What Read answers: which error. -/
def rdN (D : Dk) (s : ByteArray) : Nat := if D.dw = true then 2 else if fnd D.fs s = none then 3 else 0
def RdP (D : Dk) (s : ByteArray) (aD aF aN : Addr) (w : World) (e : Ending) (w' : World) : Prop := ∃ a n c, e = .returned (.tuple #[.slice a n c, evD aD aF aN (rdN D s)]) ∧ Below w.heap.size w w'

set_option maxHeartbeats 4000000 in
set_option maxRecDepth 100000 in
theorem dRead_any (w : World) (d x : Nat) (F : Nat → Prop) (D : Dk) (s : ByteArray) (B : Nat) (aD aF aN : Addr) (h : Dm w x F D) (hk : D.Ok B) (hB : B ≤ 1099511627776) (hd : w.cell? ⟨d, 0, none⟩ = some (.pointer (some ⟨x, 0, none⟩))) (hE : Er w aD aF aN) :
    Calls Tryd.prog 17 #[.pointer (some ⟨d, 0, none⟩), .string s] w fun e w' => RdP D s aD aF aN w e w' := by
  obtain ⟨K, hK⟩ : ∃ K, fI D.fs s = K := ⟨_, rfl⟩
  have HFn := find_any w x F D s B h hk hB
  rw [hK] at HFn
  have HK : Hid (fI D.fs s = K) := hK
  obtain ⟨_, k5, _, _⟩ := h.dw true
  have e1 : w.cell? ⟨0, 0, none⟩ = some (.iface 71 (.pointer (some aD))) := hE.d
  have e2 : w.cell? ⟨2, 0, none⟩ = some (.iface 71 (.pointer (some aN))) := hE.n
  have HD : Hid (Dm w x F D ∧ D.Ok B) := ⟨h, hk⟩
  obtain ⟨i0, hi0, hs0, hs1, hs2⟩ := info_partsD infoU8
  clear h hk hE hK
  go_enter Tryd.func17, Tryd.ntmps17
  go_upto_region 2 with (go_at_call 30; refine HFn.mono ?_; rintro e w2 ⟨rfl, hw2⟩; rw [hw2]; clear hw2)
  clear HFn
  cases hw : D.dw with
  | true =>
    rw [hw] at k5
    have HR : Hid (rdN D s = 2) := by show _ = _; unfold rdN; rw [hw]; rfl
    go_upto_region 3 with fail
    go_quiet (fail)
    go_wp2
    go_ret2
    exact ⟨none, 0, 0, by rw [HR.out]; rfl, ⟨rfl, rfl, rfl, Nat.le_refl _, fun _ _ => rfl⟩⟩
  | false =>
    rw [hw] at k5
    cases hf : fnd D.fs s with
    | none =>
      have hK2 : K = -1 := by rw [← HK.out]; exact fI_none hf
      subst hK2
      have HR : Hid (rdN D s = 3) := by show _ = _; unfold rdN; rw [hw, if_neg (by simp), if_pos hf]
      clear hf
      go_upto_region 5 with fail
      go_quiet (fail)
      go_wp2
      go_ret2
      exact ⟨none, 0, 0, by rw [HR.out]; rfl, ⟨rfl, rfl, rfl, Nat.le_refl _, fun _ _ => rfl⟩⟩
    | some i =>
      have hK2 : K = (i : Int) := by rw [← HK.out]; exact fI_some hf
      have HR : Hid (rdN D s = 0) := by show _ = _; unfold rdN; rw [hw, if_neg (by simp), hf, if_neg (by simp)]
      subst hK2
      have hz : ¬ (i : Int) < 0 := by omega
      have hz2 : (0 : Int) ≤ (i : Int) := by omega
      obtain ⟨vf, L, hc⟩ := HD.out.1
      obtain ⟨n, hn⟩ : ∃ n, L.length = n := ⟨_, rfl⟩
      have hin : (i : Int) < (n : Int) := by have := fnd_lt hf; rw [hc.len] at this; omega
      obtain ⟨p, hp⟩ : ∃ p, L[i]? = some p := ⟨_, List.getElem?_eq_getElem (by omega)⟩
      obtain ⟨gF, cf, hv, hFg, hgl, k0, k1, k2, kz⟩ := hc.at hp
      rw [hn] at hv
      subst hv
      have c0 : w.cell? ⟨x, 0, none⟩ = some (.slice (some ⟨gF, 0, none⟩) n cf) := hc.c 0
      obtain ⟨av, cv, hav⟩ := d_shape (hc.byt i p hp)
      have hby := hc.byt i p hp
      have hfl : p.1.bs.length ≤ 1099511627776 := by have := usd_get (hc.file hp); have := HD.out.2.used; omega
      obtain ⟨⟨nm, bs, sf⟩, pv⟩ := p
      simp only at hav k1 hby hfl
      subst hav
      obtain ⟨l1, l2, l3, l4⟩ := lies_own hby
      have HL : Hid (Lies .u8 w av bs ∧ (av = none → bs.length = 0 ∧ cv = 0)) := ⟨l1, l2⟩
      clear hc hp hf hn hby l1 l2 l3 l4 k0 k2 kz hFg hgl
      go_wp2_with (at_builtin; refine append_any _ rfl _ _ 36 rfl w.heap.size 5 i0 (.int .u8 0) 1 Tryd.underlying36 hi0 hs0 hs1 hs2 rfl _ _ _ rfl (World.ownsRow_nil _ _ _ _) .u8 av bs.length cv bs rfl HL.out.2 rfl HL.out.1 (by unfold maxLen; omega) (by omega) (Nat.le_refl _) ?_; intro vB w2 o2 g2; obtain ⟨aB, cB, rfl⟩ := d_shape o2; have H2 : Hid (w.grownBy w2 none) := g2; clear o2 g2)
      go_ret2
      exact ⟨_, _, _, by rw [HR.out]; rfl, ⟨H2.out.os, H2.out.tape, H2.out.output, H2.out.size, fun k hk => H2.out.block k hk (fun e => by cases e)⟩⟩

end Go.Proofs.YticdedcgmofpjaaDoor.K
