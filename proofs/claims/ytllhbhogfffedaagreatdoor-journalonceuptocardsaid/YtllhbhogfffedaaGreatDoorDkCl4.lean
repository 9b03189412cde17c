import Derived.Test.YtllhbhogfffedaaGreatDoorDkCl3
namespace Go.Proofs.YtllhbhogfffedaaGreatDoor.K
open Go.RowKit
set_option linter.unusedVariables false
set_option linter.unusedSimpArgs false

def cutN (f : Fl) (N : Int) : Nat := (min (max N 0) (f.bs.length : Int)).toNat
def cutF (fs : List Fl) (i : Nat) (N : Int) : List Fl := setF fs i (fun f => ⟨f.nm, f.bs.take (cutN f N), (cutN f N : Int)⟩)
theorem set_set' {α : Type} (l : List α) (i : Nat) (x y : α) : (l.set i x).set i y = l.set i y := by simp
/-- A file's bytes, fewer. -/
theorem Dc.cut {W : World} {x gF nf cf i k : Nat} {F : Nat → Prop} {D : Dk} {L : List Fv} {p : Fv} {v' : Value} (h : Dc W x F D (.slice (some ⟨gF, 0, none⟩) nf cf) L) (hp : L[i]? = some p) (r1 : W.ownsRow 0 5 1 v' (p.1.bs.take k).length ((p.1.bs.take k).map (Value.int .u8))) (r3 : v'.ownBlock = p.2.ownBlock) :
    Dc (W.setCell ⟨gF, i * 3 + 1, none⟩ v') x F (D.fs' (D.fs.set i ⟨p.1.nm, p.1.bs.take k, p.1.sf⟩)) (.slice (some ⟨gF, 0, none⟩) nf cf) (L.set i (⟨p.1.nm, p.1.bs.take k, p.1.sf⟩, v')) := by
  have h1 := h.app hp r1 ⟨rfl, rfl, rfl, Nat.le_refl _, fun _ _ _ => rfl⟩ (.inl r3)
  exact h1.mono (fun k' h' hl => h'.elim id (fun q => by simp [World.setCell] at hl; omega))

set_option maxHeartbeats 8000000 in
theorem clCut_any (w : World) (Db Ib Sb d x i : Nat) (N : Int) (F : Nat → Prop) (D : Dk) (B : Nat) (h : Dm w x F D) (hk : D.Ok B) (hB : B ≤ 1099511627776) (hkl : i < D.fs.length)
    (hD : w.cell? ⟨Db, 0, none⟩ = some (.pointer (some ⟨d, 0, none⟩))) (hd : w.cell? ⟨d, 0, none⟩ = some (.pointer (some ⟨x, 0, none⟩))) (hI : w.cell? ⟨Ib, 0, none⟩ = some (.int .i64 (i : Int))) (hS : w.cell? ⟨Sb, 0, none⟩ = some (.int .i64 N)) (nD : ¬ F Db) (nd : ¬ F d) (nI : ¬ F Ib) (nS : ¬ F Sb) :
    Calls Tryz.prog 76 #[.pointer (some ⟨Db, 0, none⟩), .pointer (some ⟨Ib, 0, none⟩), .pointer (some ⟨Sb, 0, none⟩)] w fun e w' => ClP x F D (cutF D.fs i N) w e w' := by
  obtain ⟨vf, L, hc⟩ := h
  obtain ⟨p, hp⟩ : ∃ p, L[i]? = some p := ⟨_, List.getElem?_eq_getElem (by rw [hc.len] at hkl; exact hkl)⟩
  obtain ⟨gF, cf, hv, hFg, hgl, k0, k1, k2, kz⟩ := hc.at hp
  obtain ⟨n, hn⟩ : ∃ n, L.length = n := ⟨_, rfl⟩
  rw [hn] at hv
  subst hv
  have HC : Hid (Dc w x F D (.slice (some ⟨gF, 0, none⟩) n cf) L ∧ L[i]? = some p ∧ F gF) := ⟨hc, hp, hFg⟩
  have hin : (i : Int) < (n : Int) := by rw [hc.len, hn] at hkl; omega
  have hi0 : (0 : Int) ≤ (i : Int) := by omega
  have c0 : w.cell? ⟨x, 0, none⟩ = some (.slice (some ⟨gF, 0, none⟩) n cf) := hc.c 0
  have e4 : Sb ≠ gF := fun e => nS (e ▸ hFg)
  have HZ : Hid (w.cell? ⟨gF, i * 3 + 1, none⟩ = some p.2 ∧ ∀ j, w.frozen? ⟨gF, j, none⟩ = false) := ⟨k1, kz⟩
  have HS : Hid (w.cell? ⟨Sb, 0, none⟩ = some (.int .i64 N)) := hS
  have HK : Hid ((cutN p.1 N : Int) = min (max N 0) (p.1.bs.length : Int)) := by show _ = _; unfold cutN; omega
  clear hc hp hn hk hkl nD nd nI nS k0 k1 k2 kz hFg
  go_enter Tryz.func76, Tryz.ntmps76
  go_wp2_with fail
  go_region_held3 (fun V => V.cell? ⟨Db, 0, none⟩ = some (.pointer (some ⟨d, 0, none⟩)) ∧ V.cell? ⟨d, 0, none⟩ = some (.pointer (some ⟨x, 0, none⟩)) ∧ V.cell? ⟨Ib, 0, none⟩ = some (.int .i64 (i : Int)) ∧ V.cell? ⟨x, 0, none⟩ = some (.slice (some ⟨gF, 0, none⟩) n cf))
    (first | exact ⟨hD, hd, hI, c0⟩)
    (fail)
  obtain ⟨V, hV⟩ : ∃ V, w.drew = V := ⟨_, rfl⟩
  rw [hV]
  have HV : Hid (Dc V.drew x F D (.slice (some ⟨gF, 0, none⟩) n cf) L ∧ Kd F w V.drew ∧ V.drew.cell? ⟨Sb, 0, none⟩ = some (.int .i64 N) ∧ V.drew.cell? ⟨gF, i * 3 + 1, none⟩ = some p.2 ∧ ∀ j, V.drew.frozen? ⟨gF, j, none⟩ = false) := by
    rw [← hV]; exact ⟨HC.out.1.same (fun _ _ _ => rfl), (Kd.refl _ _).drew.drew, HS.out, HZ.out.1, HZ.out.2⟩
  clear hV hD hd hI hS c0
  obtain ⟨K, hKK⟩ : ∃ K, cutN p.1 N = K := ⟨_, rfl⟩
  have hby := HV.out.1.byt i p HC.out.2.1
  have HR : ∀ (v' : Value) (V2 : World), V2 = V.drew.setCell ⟨gF, i * 3 + 1, none⟩ v' → V.drew.ownsRow 0 5 1 v' (p.1.bs.take K).length ((p.1.bs.take K).map (Value.int .u8)) → v'.ownBlock = p.2.ownBlock → Hid (∃ a c, v' = .slice a K c ∧ V2.cell? ⟨gF, i * 3 + 1, none⟩ = some v' ∧ (∃ y, V2.cell? ⟨gF, i * 3 + 2, none⟩ = some y) ∧ V2.frozen? ⟨gF, i * 3 + 2, none⟩ = false ∧ ClP x F D (cutF D.fs i N) w (.returned (.tuple #[])) (V2.setCell ⟨gF, i * 3 + 2, none⟩ (.int .i64 (K : Int)))) := by
    intro v' V2 hV2 r1 r3
    obtain ⟨hc, hp, hFg⟩ := HC.out
    have hKl : K ≤ p.1.bs.length := by have := HK.out; omega
    have hlen : (p.1.bs.take K).length = K := by rw [List.length_take]; omega
    have h1 := HV.out.1.cut hp r1 r3
    rw [← hV2] at h1
    have hp2 : (L.set i (((⟨p.1.nm, p.1.bs.take K, p.1.sf⟩ : Fl), v') : Fv))[i]? = some (⟨p.1.nm, p.1.bs.take K, p.1.sf⟩, v') := by
      rw [List.getElem?_set_self (List.getElem?_eq_some_iff.mp hp).1]
    obtain ⟨g2, c2, hv2, _, _, q0, q1, q2, q3⟩ := h1.at hp2
    obtain ⟨rfl, _, rfl⟩ : gF = g2 ∧ _ ∧ cf = c2 := by simpa using hv2
    obtain ⟨a, c, hsh⟩ := d_shape r1
    rw [hlen] at hsh
    have h2 := h1.cellF hp2 (k := i * 3 + 2) (v := .int .i64 (K : Int)) (q := ⟨p.1.nm, p.1.bs.take K, (K : Int)⟩) rfl (fcell_set2 _ hp2)
    rw [set_set'] at h2
    refine ⟨a, c, hsh, q1, ⟨_, q2⟩, q3 _, ⟨_, rfl⟩, ?_, ?_⟩
    · unfold cutF
      rw [setF_at (hc.file hp), hKK]
      have h3 : (D.fs' (D.fs.set i ⟨p.1.nm, p.1.bs.take K, p.1.sf⟩)).fs.set i ⟨p.1.nm, p.1.bs.take K, (K : Int)⟩ = D.fs.set i ⟨p.1.nm, p.1.bs.take K, (K : Int)⟩ := set_set' _ _ _ _
      rw [h3] at h2
      exact Dm.up ⟨_, _, h2⟩
    · rw [hV2]
      exact HV.out.2.1.trans ((Kd.set hFg).trans (Kd.set hFg))
  obtain ⟨M, hM⟩ : ∃ M, (if N < 0 then 0 else N) = M := ⟨_, rfl⟩
  have hM0 : 0 ≤ M ∧ M = max N 0 := by rw [← hM]; split <;> omega
  have HM : Hid ((if N < 0 then 0 else N) = M) := hM
  clear hM
  obtain ⟨_, ⟨hpn, hp0⟩ | ⟨gv, cv, cur, hpv, _⟩⟩ := id hby
  · have hK0 : K = 0 := by have := HK.out; rw [hp0] at this; omega
    have hR := HR (.slice none 0 0) _ rfl (by rw [hK0]; exact World.ownsRow_nil _ _ _ _) (by rw [hpn])
    rw [hK0] at hR
    clear HR
    go_wp2_with fail
    refine regCutN _ Sb gF i N M V HM.out (by omega) (by rw [← hpn]; exact HV.out.2.2.2.1) (HV.out.2.2.2.2 _) HV.out.2.2.1 (fun y => set_cell HV.out.2.2.1 e4) ?_
    obtain ⟨a, c, he, q1, ⟨y, q2⟩, q3, q4⟩ := hR.out
    obtain ⟨V2, hV2⟩ : ∃ V2, V.drew.setCell ⟨gF, i * 3 + 1, none⟩ (.slice none 0 0) = V2 := ⟨_, rfl⟩
    rw [hV2] at q1 q2 q3 q4 ⊢
    have HQ : Hid _ := q4
    clear hR he q4 hV2 HV hby
    go_wp2
    refine bodyPost_end (v := .tuple #[]) (by simp [results, Tryz.results76, go_sem]) rfl ?_
    exact HQ.out
  · have hKl : K ≤ p.1.bs.length := by have := HK.out; omega
    have hcv : p.1.bs.length ≤ cv := by
      obtain ⟨_, ⟨e, _⟩ | ⟨g', cap, cur', e, _, _, h5, _⟩⟩ := hby
      · rw [hpv] at e; cases e
      · rw [hpv] at e; cases e; exact h5
    have hR := HR (.slice (some ⟨gv, 0, none⟩) K cv) _ rfl (by
      rw [hpv] at hby
      have h1 := own_shrink hby hKl
      rw [List.length_take, Nat.min_eq_left hKl, List.map_take]
      simpa using h1) (by rw [hpv]; rfl)
    have hm : (if ((p.1.bs.length : Nat) : Int) < M then ((p.1.bs.length : Nat) : Int) else M) = (K : Int) := by
      have := HK.out
      rw [hKK] at this
      rw [this]
      split <;> omega
    clear HR
    go_wp2_with fail
    refine regCutS _ Sb gF i N M gv p.1.bs.length cv K V (by omega) (by omega) HM.out hm (by rw [← hpv]; exact HV.out.2.2.2.1) (HV.out.2.2.2.2 _) HV.out.2.2.1 (fun y => set_cell HV.out.2.2.1 e4) ?_
    obtain ⟨a, c, he, q1, ⟨y, q2⟩, q3, q4⟩ := hR.out
    obtain ⟨V2, hV2⟩ : ∃ V2, V.drew.setCell ⟨gF, i * 3 + 1, none⟩ (.slice (some ⟨gv, 0, none⟩) K cv) = V2 := ⟨_, rfl⟩
    rw [hV2] at q1 q2 q3 q4 ⊢
    have HQ : Hid _ := q4
    clear hR he q4 hV2 HV hby hm
    go_wp2
    refine bodyPost_end (v := .tuple #[]) (by simp [results, Tryz.results76, go_sem]) rfl ?_
    exact HQ.out

end Go.Proofs.YtllhbhogfffedaaGreatDoor.K
