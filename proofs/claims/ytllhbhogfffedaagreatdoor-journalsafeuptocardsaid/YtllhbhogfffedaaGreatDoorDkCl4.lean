import Derived.Test.YtllhbhogfffedaaGreatDoorDkCl3
namespace Go.Proofs.YtllhbhogfffedaaGreatDoor.K
open Go.RowKit
set_option linter.unusedVariables false
set_option linter.unusedSimpArgs false

def cutN (f : Fl) (N : Int) : Nat := (min (max N 0) (f.bs.length : Int)).toNat
def cutF (fs : List Fl) (i : Nat) (N : Int) : List Fl := setF fs i (fun f => ⟨f.nm, f.bs.take (cutN f N), (cutN f N : Int)⟩)
theorem set_set' {α : Type} (l : List α) (i : Nat) (x y : α) : (l.set i x).set i y = l.set i y := by simp
/-- A file's bytes, fewer. -/
theorem Dc.cut {W : World} {x gF nf cf i k : Nat} {F : Nat → Prop} {D : Dk} {L : List Fv} {p : Fv} {v' : Value} (h : Dc W x F D (.slice (some ⟨gF, 0, none⟩) nf cf) L) (hp : L[i]? = some p) (r1 : W.ownsRow 0 5 1 v' (p.1.bs.take k).length ((p.1.bs.take k).map (Value.int .u8))) (r3 : v'.ownBlock = p.2.ownBlock) :
    Dc (W.setCell ⟨gF, i * 3 + 1, none⟩ v') x F (D.fs' (D.fs.set i ⟨p.1.nm, p.1.bs.take k, p.1.sf⟩)) (.slice (some ⟨gF, 0, none⟩) nf cf) (L.set i (⟨p.1.nm, p.1.bs.take k, p.1.sf⟩, v')) := by
  have h1 := h.app hp r1 ⟨rfl, rfl, rfl, Nat.le_refl _, fun _ _ _ => rfl⟩ (.inl r3)
  exact h1.mono (fun k' h' hl => h'.elim id (fun q => by simp [World.setCell] at hl; omega))

set_option maxHeartbeats 8000000 in
theorem clCut_any (w : World) (Db Ib Sb d x i : Nat) (N : Int) (F : Nat → Prop) (D : Dk) (B : Nat) (h : Dm w x F D) (hk : D.Ok B) (hB : B ≤ 1099511627776) (hkl : i < D.fs.length)
    (hD : w.cell? ⟨Db, 0, none⟩ = some (.pointer (some ⟨d, 0, none⟩))) (hd : w.cell? ⟨d, 0, none⟩ = some (.pointer (some ⟨x, 0, none⟩))) (hI : w.cell? ⟨Ib, 0, none⟩ = some (.int .i64 (i : Int))) (hS : w.cell? ⟨Sb, 0, none⟩ = some (.int .i64 N)) (nD : ¬ F Db) (nd : ¬ F d) (nI : ¬ F Ib) (nS : ¬ F Sb) :
    Calls Tryz.prog 76 #[.pointer (some ⟨Db, 0, none⟩), .pointer (some ⟨Ib, 0, none⟩), .pointer (some ⟨Sb, 0, none⟩)] w fun e w' => ClP x F D (cutF D.fs i N) w e w' := by
  obtain ⟨vf, L, hc⟩ := h
  obtain ⟨p, hp⟩ : ∃ p, L[i]? = some p := ⟨_, List.getElem?_eq_getElem (by rw [hc.len] at hkl; exact hkl)⟩
  obtain ⟨gF, cf, hv, hFg, hgl, k0, k1, k2, kz⟩ := hc.at hp
  obtain ⟨n, hn⟩ : ∃ n, L.length = n := ⟨_, rfl⟩
  rw [hn] at hv
  subst hv
  have HC : Hid (Dc w x F D (.slice (some ⟨gF, 0, none⟩) n cf) L ∧ L[i]? = some p ∧ F gF) := ⟨hc, hp, hFg⟩
  have hin : (i : Int) < (n : Int) := by rw [hc.len, hn] at hkl; omega
  have hi0 : (0 : Int) ≤ (i : Int) := by omega
  have c0 : w.cell? ⟨x, 0, none⟩ = some (.slice (some ⟨gF, 0, none⟩) n cf) := hc.c 0
  have e4 : Sb ≠ gF := fun e => nS (e ▸ hFg)
  have HZ : Hid (w.cell? ⟨gF, i * 3 + 1, none⟩ = some p.2 ∧ ∀ j, w.frozen? ⟨gF, j, none⟩ = false) := ⟨k1, kz⟩
  have HS : Hid (w.cell? ⟨Sb, 0, none⟩ = some (.int .i64 N)) := hS
  have HK : Hid ((cutN p.1 N : Int) = min (max N 0) (p.1.bs.length : Int)) := by show _ = _; unfold cutN; omega
  clear hc hp hn hk hkl nD nd nI nS k0 k1 k2 kz hFg
  go_enter Tryz.func76, Tryz.ntmps76
  go_wp2_with fail
  go_region_held3 (fun V => V.cell? ⟨Db, 0, none⟩ = some (.pointer (some ⟨d, 0, none⟩)) ∧ V.cell? ⟨d, 0, none⟩ = some (.pointer (some ⟨x, 0, none⟩)) ∧ V.cell? ⟨Ib, 0, none⟩ = some (.int .i64 (i : Int)) ∧ V.cell? ⟨x, 0, none⟩ = some (.slice (some ⟨gF, 0, none⟩) n cf))
    (first | exact ⟨hD, hd, hI, c0⟩)
    (fail)
  obtain ⟨V, hV⟩ : ∃ V, w.drew = V := ⟨_, rfl⟩
  rw [hV]
  have HV : Hid (Dc V.drew x F D (.slice (some ⟨gF, 0, none⟩) n cf) L ∧ Kd F w V.drew ∧ V.drew.cell? ⟨Sb, 0, none⟩ = some (.int .i64 N) ∧ V.drew.cell? ⟨gF, i * 3 + 1, none⟩ = some p.2 ∧ ∀ j, V.drew.frozen? ⟨gF, j, none⟩ = false) := by
    rw [← hV]; exact ⟨HC.out.1.same (fun _ _ _ => rfl), (Kd.refl _ _).drew.drew, HS.out, HZ.out.1, HZ.out.2⟩
  clear hV hD hd hI hS c0
  obtain ⟨K, hKK⟩ : ∃ K, cutN p.1 N = K := ⟨_, rfl⟩
  have hby := HV.out.1.byt i p HC.out.2.1
  have HR : ∀ (v' : Value) (V2 : World), V2 = V.drew.setCell ⟨gF, i * 3 + 1, none⟩ v' → V.drew.ownsRow 0 5 1 v' (p.1.bs.take K).length ((p.1.bs.take K).map (Value.int .u8)) → v'.ownBlock = p.2.ownBlock → Hid (∃ a c, v' = .slice a K c ∧ V2.cell? ⟨gF, i * 3 + 1, none⟩ = some v' ∧ (∃ y, V2.cell? ⟨gF, i * 3 + 2, none⟩ = some y) ∧ V2.frozen? ⟨gF, i * 3 + 2, none⟩ = false ∧ ClP x F D (cutF D.fs i N) w (.returned (.tuple #[])) (V2.setCell ⟨gF, i * 3 + 2, none⟩ (.int .i64 (K : Int)))) := by
    intro v' V2 hV2 r1 r3
    obtain ⟨hc, hp, hFg⟩ := HC.out
    have hKl : K ≤ p.1.bs.length := by have := HK.out; omega
    have hlen : (p.1.bs.take K).length = K := by rw [List.length_take]; omega
    have h1 := HV.out.1.cut hp r1 r3
    rw [← hV2] at h1
    have hp2 : (L.set i (((⟨p.1.nm, p.1.bs.take K, p.1.sf⟩ : Fl), v') : Fv))[i]? = some (⟨p.1.nm, p.1.bs.take K, p.1.sf⟩, v') := by
      rw [List.getElem?_set_self (List.getElem?_eq_some_iff.mp hp).1]
    obtain ⟨g2, c2, hv2, _, _, q0, q1, q2, q3⟩ := h1.at hp2
    obtain ⟨rfl, _, rfl⟩ : gF = g2 ∧ _ ∧ cf = c2 := by simpa using hv2
    obtain ⟨a, c, hsh⟩ := d_shape r1
    rw [hlen] at hsh
    have h2 := h1.cellF hp2 (k := i * 3 + 2) (v := .int .i64 (K : Int)) (q := ⟨p.1.nm, p.1.bs.take K, (K : Int)⟩) rfl (fcell_set2 _ hp2)
    rw [set_set'] at h2
    refine ⟨a, c, hsh, q1, ⟨_, q2⟩, q3 _, ⟨_, rfl⟩, ?_, ?_⟩
    · unfold cutF
      rw [setF_at (hc.file hp), hKK]
      have h3 : (D.fs' (D.fs.set i ⟨p.1.nm, p.1.bs.take K, p.1.sf⟩)).fs.set i ⟨p.1.nm, p.1.bs.take K, (K : Int)⟩ = D.fs.set i ⟨p.1.nm, p.1.bs.take K, (K : Int)⟩ := set_set' _ _ _ _
      rw [h3] at h2
      exact Dm.up ⟨_, _, h2⟩
    · rw [hV2]
      exact HV.out.2.1.trans ((Kd.set hFg).trans (Kd.set hFg))
  obtain ⟨M, hM⟩ : ∃ M, (if N < 0 then 0 else N) = M := ⟨_, rfl⟩
  have hM0 : 0 ≤ M ∧ M = max N 0 := by rw [← hM]; split <;> omega
  have HM : Hid ((if N < 0 then 0 else N) = M) := hM
  clear hM
  obtain ⟨_, ⟨hpn, hp0⟩ | ⟨gv, cv, cur, hpv, _⟩⟩ := id hby
  · have hK0 : K = 0 := by have := HK.out; rw [hp0] at this; omega
    have hR := HR (.slice none 0 0) _ rfl (by rw [hK0]; exact World.ownsRow_nil _ _ _ _) (by rw [hpn])
    rw [hK0] at hR
    clear HR
    go_wp2_with fail
    refine regCutN _ Sb gF i N M V HM.out (by omega) (by rw [← hpn]; exact HV.out.2.2.2.1) (HV.out.2.2.2.2 _) HV.out.2.2.1 (fun y => set_cell HV.out.2.2.1 e4) ?_
    obtain ⟨a, c, he, q1, ⟨y, q2⟩, q3, q4⟩ := hR.out
    obtain ⟨V2, hV2⟩ : ∃ V2, V.drew.setCell ⟨gF, i * 3 + 1, none⟩ (.slice none 0 0) = V2 := ⟨_, rfl⟩
    rw [hV2] at q1 q2 q3 q4 ⊢
    have HQ : Hid _ := q4
    clear hR he q4 hV2 HV hby
    go_wp2
    refine bodyPost_end (v := .tuple #[]) (by simp [results, Tryz.results76, go_sem]) rfl ?_
    exact HQ.out
  · have hKl : K ≤ p.1.bs.length := by have := HK.out; omega
    have hcv : p.1.bs.length ≤ cv := by
      obtain ⟨_, ⟨e, _⟩ | ⟨g', cap, cur', e, _, _, h5, _⟩⟩ := hby
      · rw [hpv] at e; cases e
      · rw [hpv] at e; cases e; exact h5
    have hR := HR (.slice (some ⟨gv, 0, none⟩) K cv) _ rfl (by
      rw [hpv] at hby
      have h1 := own_shrink hby hKl
      rw [List.length_take, Nat.min_eq_left hKl, List.map_take]
      simpa using h1) (by rw [hpv]; rfl)
    have hm : (if ((p.1.bs.length : Nat) : Int) < M then ((p.1.bs.length : Nat) : Int) else M) = (K : Int) := by
      have := HK.out
      rw [hKK] at this
      rw [this]
      split <;> omega
    clear HR
    go_wp2_with fail
    refine regCutS _ Sb gF i N M gv p.1.bs.length cv K V (by omega) (by omega) HM.out hm (by rw [← hpv]; exact HV.out.2.2.2.1) (HV.out.2.2.2.2 _) HV.out.2.2.1 (fun y => set_cell HV.out.2.2.1 e4) ?_
    obtain ⟨a, c, he, q1, ⟨y, q2⟩, q3, q4⟩ := hR.out
    obtain ⟨V2, hV2⟩ : ∃ V2, V.drew.setCell ⟨gF, i * 3 + 1, none⟩ (.slice (some ⟨gv, 0, none⟩) K cv) = V2 := ⟨_, rfl⟩
    rw [hV2] at q1 q2 q3 q4 ⊢
    have HQ : Hid _ := q4
    clear hR he q4 hV2 HV hby hm
    go_wp2
    refine bodyPost_end (v := .tuple #[]) (by simp [results, Tryz.results76, go_sem]) rfl ?_
    exact HQ.out

end Go.Proofs.YtllhbhogfffedaaGreatDoor.K

namespace Go.Proofs.YtllhbhogfffedaaGreatDoor.K
open Go.RowKit
set_option linter.unusedVariables false
set_option linter.unusedSimpArgs false

/-- An act: carried out, or the disk goes down on it. -/
def actB (D : Dk) : Bool := D.arm && decide (D.acts = 0)
def actD (D : Dk) (fs : List Fl) : Dk := if actB D = true then { D with fs := if D.dn = true then fs else D.fs, dw := true } else { D with fs := fs, acts := if D.arm = true then D.acts - 1 else D.acts }
def errV (a : Addr) : Value := .iface 218 (.pointer (some a))
/-- What an act answers: 0 nothing, 1 full, 2 down, 3 no such file. -/
def evD (aD aF aN : Addr) (r : Nat) : Value := if r = 0 then .nilIface else if r = 1 then errV aF else if r = 2 then errV aD else errV aN
def actA (D : Dk) (aD : Addr) : Value := if actB D = true then errV aD else .nilIface
theorem actA_t {D : Dk} {aD : Addr} (h : actB D = true) : actA D aD = errV aD := by unfold actA; rw [h]; rfl
theorem actA_f {D : Dk} {aD : Addr} (h : actB D = false) : actA D aD = .nilIface := by unfold actA; rw [h]; rfl
def actR (D : Dk) : Nat := if actB D = true then 2 else 0
section
variable {w : World} {x : Nat} {F : Nat → Prop} {D : Dk}
theorem Dm.dw (h : Dm w x F D) (b : Bool) : Dm (w.setCell ⟨x, 5, none⟩ (.bool b)) x F { D with dw := b } ∧ w.cell? ⟨x, 5, none⟩ = some (.bool D.dw) ∧ w.frozen? ⟨x, 5, none⟩ = false ∧ F x := by
  obtain ⟨vf, L, h⟩ := h
  exact ⟨⟨vf, L, h.boxed rfl (heap_setCell_same w x 5 _ _ _ h.box) (fun k hk => heap_setCell_other _ _ _ _ hk)⟩, h.c 5, h.z 5, h.fx⟩
theorem Dm.ac (h : Dm w x F D) (a : Int) : Dm (w.setCell ⟨x, 3, none⟩ (.int .i64 a)) x F { D with acts := a } ∧ w.cell? ⟨x, 3, none⟩ = some (.int .i64 D.acts) ∧ w.frozen? ⟨x, 3, none⟩ = false ∧ F x := by
  obtain ⟨vf, L, h⟩ := h
  exact ⟨⟨vf, L, h.boxed rfl (heap_setCell_same w x 3 _ _ _ h.box) (fun k hk => heap_setCell_other _ _ _ _ hk)⟩, h.c 3, h.z 3, h.fx⟩
theorem Dm.c2 (h : Dm w x F D) : w.cell? ⟨x, 2, none⟩ = some (.bool D.arm) ∧ w.cell? ⟨x, 4, none⟩ = some (.bool D.dn) ∧ w.cell? ⟨x, 1, none⟩ = some (.int .i64 D.room) := by
  obtain ⟨vf, L, h⟩ := h
  exact ⟨h.c 2, h.c 4, h.c 1⟩
end


set_option maxHeartbeats 4000000 in
set_option maxRecDepth 20000 in
theorem actApp (w : World) (x : Nat) (F : Nat → Prop) (D : Dk) (fs : List Fl) (B : Nat) (p q r : Value) (aD : Addr) (h : Dm w x F D) (hk : D.Ok B) (hE : w.cell? ⟨0, 0, none⟩ = some (errV aD)) (nE : ¬ F 0)
    (hcl : ∀ V D1, Dm V x F D1 → D1.fs = D.fs → D1.Ok B → Kd F w V → Calls Tryz.prog 58 #[p, q, r] V fun e w' => ClP x F D1 fs V e w') :
    Calls Tryz.prog 57 #[.pointer (some ⟨x, 0, none⟩), .func (.func 58) #[] #[p, q, r]] w fun e w' => e = .returned (actA D aD) ∧ Dm w' x (up F w) (actD D fs) ∧ Kd F w w' := by
  obtain ⟨k2, k4, _⟩ := h.c2
  obtain ⟨_, k3, z3, hfx⟩ := h.ac 0
  obtain ⟨_, k5, z5, _⟩ := h.dw true
  have hxE : x ≠ 0 := fun e => nE (e ▸ hfx)
  have HD : Hid (Dm w x F D) := h
  have HE : Hid (w.cell? ⟨0, 0, none⟩ = some (errV aD) ∧ (¬ F 0) ∧ F x) := ⟨hE, nE, hfx⟩
  obtain ⟨ev, hev⟩ : ∃ v, errV aD = v := ⟨_, rfl⟩
  have hev' : ∃ t p, ev = .iface t p := ⟨_, _, hev.symm⟩
  have HV : Hid (errV aD = ev) := hev
  rw [hev] at hE
  obtain ⟨tE, pE, rfl⟩ := hev'
  have HCl : Hid (∀ V D1, Dm V x F D1 → D1.fs = D.fs → D1.Ok B → Kd F w V → Calls Tryz.prog 58 #[p, q, r] V fun e w' => ClP x F D1 fs V e w') := hcl
  have HK : Hid (D.Ok B) := hk
  clear h hcl hk nE hev
  cases ha : D.arm with
  | false =>
    rw [ha] at k2
    have HR : Hid (actB D = false ∧ actD D fs = D.fs' fs) := by
      have h1 : actB D = false := by unfold actB; rw [ha]; rfl
      refine ⟨h1, ?_⟩
      unfold actD
      rw [h1]
      simp [Dk.fs', ha]
    have hc := HCl.out w D HD.out rfl HK.out (Kd.refl _ _)
    clear HCl
    go_enter Tryz.func57, Tryz.ntmps57
    go_wp2_with (go_at_call 58; refine hc.mono ?_; rintro e w3 ⟨⟨v3, rfl⟩, hq3, hq4⟩)
    go_ret
    rw [actA_f HR.out.1, HR.out.2]
    exact ⟨rfl, hq3, hq4⟩
  | true =>
    rw [ha] at k2
    by_cases h0 : D.acts = 0
    · have HB : Hid (actB D = true) := by show _ = _; unfold actB; rw [ha, h0]; rfl
      rw [h0] at k3
      cases hn : D.dn with
      | true =>
        rw [hn] at k4
        have HR : Hid (actD D fs = { D.fs' fs with dw := true }) := by show _ = _; unfold actD; rw [HB.out]; simp [Dk.fs', hn]
        have hc := HCl.out w D HD.out rfl HK.out (Kd.refl _ _)
        clear HCl
        go_enter Tryz.func57, Tryz.ntmps57
        go_wp2_with (go_at_call 58; refine hc.mono ?_; rintro e w3 ⟨⟨v3, rfl⟩, hq3, hq4⟩
                     have HQ : Hid (Dm w3 x (up F w) (D.fs' fs) ∧ Kd F w w3) := ⟨hq3, hq4⟩
                     obtain ⟨y1, y2, y3, y4⟩ := hq3.dw true
                     have y5 := HV.out ▸ (set_cell (g := x) (j := 5) (u := Value.bool true) (hq4.cell HE.out.1 HE.out.2.1) (fun e => hxE e.symm))
                     clear hq3 hq4 y1 y4)
        go_ret
        rw [actA_t HB.out, HR.out]
        refine ⟨by rw [HV.out]; rfl, (HQ.out.1.dw true).1, HQ.out.2.trans (Kd.set HE.out.2.2)⟩
      | false =>
        rw [hn] at k4
        have HR : Hid (actD D fs = { D with dw := true }) := by show _ = _; unfold actD; rw [HB.out]; simp [hn]
        have y5 := HV.out ▸ (set_cell (g := x) (j := 5) (u := Value.bool true) HE.out.1 (fun e => hxE e.symm))
        clear HCl
        go_enter Tryz.func57, Tryz.ntmps57
        go_wp2
        go_ret
        rw [actA_t HB.out, HR.out]
        exact ⟨by rw [HV.out]; rfl, ((HD.out.dw true).1).mono (fun k h _ => .inl h), Kd.set HE.out.2.2⟩
    · have HB : Hid (actB D = false) := by show _ = _; unfold actB; rw [ha]; simp [h0]
      have hz : ¬ D.acts = 0 := h0
      have hzb : (D.acts == 0) = false := by simp [h0]
      have HR : Hid (actD D fs = { D with fs := fs, acts := D.acts - 1 }) := by show _ = _; unfold actD; rw [HB.out]; simp [ha]
      have hwa : IntKind.i64.wrap (D.acts - 1) = D.acts - 1 := by have := HK.out.acts; rw [IntKind.wrap_i64]; omega
      obtain ⟨W, hW⟩ : ∃ W, w.setCell ⟨x, 3, none⟩ (.int .i64 (D.acts - 1)) = W := ⟨_, rfl⟩
      have hK1 : Kd F w W := by rw [← hW]; exact Kd.set HE.out.2.2
      have hDW : Dm W x F { D with acts := D.acts - 1 } := by rw [← hW]; exact (HD.out.ac _).1
      have hc := HCl.out W { D with acts := D.acts - 1 } hDW rfl ⟨HK.out.fs, HK.out.len, HK.out.used, HK.out.room, by have := HK.out.acts; show 0 ≤ D.acts - 1 ∧ D.acts - 1 ≤ _; omega⟩ hK1
      have HK1 : Hid (Kd F w W ∧ W.heap.size = w.heap.size) := ⟨hK1, by rw [← hW]; simp [World.setCell]⟩
      clear HCl hK1 hDW
      go_enter Tryz.func57, Tryz.ntmps57
      go_wp2_with (go_at_call 58; refine hc.mono ?_; rintro e w3 ⟨⟨v3, rfl⟩, hq3, hq4⟩
                   have HQ : Hid (Dm w3 x (up F W) ({ D with acts := D.acts - 1 }.fs' fs) ∧ Kd F W w3) := ⟨hq3, hq4⟩
                   clear hq3 hq4)
      go_ret
      rw [actA_f HB.out, HR.out]
      refine ⟨rfl, HQ.out.1.mono (fun k h _ => h.imp id (fun e => by have := HK1.out.2; omega)), HK1.out.1.trans HQ.out.2⟩


set_option maxHeartbeats 4000000 in
set_option maxRecDepth 20000 in
theorem actSyn (w : World) (x : Nat) (F : Nat → Prop) (D : Dk) (fs : List Fl) (B : Nat) (p q : Value) (aD : Addr) (h : Dm w x F D) (hk : D.Ok B) (hE : w.cell? ⟨0, 0, none⟩ = some (errV aD)) (nE : ¬ F 0)
    (hcl : ∀ V D1, Dm V x F D1 → D1.fs = D.fs → D1.Ok B → Kd F w V → Calls Tryz.prog 60 #[p, q] V fun e w' => ClP x F D1 fs V e w') :
    Calls Tryz.prog 57 #[.pointer (some ⟨x, 0, none⟩), .func (.func 60) #[] #[p, q]] w fun e w' => e = .returned (actA D aD) ∧ Dm w' x (up F w) (actD D fs) ∧ Kd F w w' := by
  obtain ⟨k2, k4, _⟩ := h.c2
  obtain ⟨_, k3, z3, hfx⟩ := h.ac 0
  obtain ⟨_, k5, z5, _⟩ := h.dw true
  have hxE : x ≠ 0 := fun e => nE (e ▸ hfx)
  have HD : Hid (Dm w x F D) := h
  have HE : Hid (w.cell? ⟨0, 0, none⟩ = some (errV aD) ∧ (¬ F 0) ∧ F x) := ⟨hE, nE, hfx⟩
  obtain ⟨ev, hev⟩ : ∃ v, errV aD = v := ⟨_, rfl⟩
  have hev' : ∃ t p, ev = .iface t p := ⟨_, _, hev.symm⟩
  have HV : Hid (errV aD = ev) := hev
  rw [hev] at hE
  obtain ⟨tE, pE, rfl⟩ := hev'
  have HCl : Hid (∀ V D1, Dm V x F D1 → D1.fs = D.fs → D1.Ok B → Kd F w V → Calls Tryz.prog 60 #[p, q] V fun e w' => ClP x F D1 fs V e w') := hcl
  have HK : Hid (D.Ok B) := hk
  clear h hcl hk nE hev
  cases ha : D.arm with
  | false =>
    rw [ha] at k2
    have HR : Hid (actB D = false ∧ actD D fs = D.fs' fs) := by
      have h1 : actB D = false := by unfold actB; rw [ha]; rfl
      refine ⟨h1, ?_⟩
      unfold actD
      rw [h1]
      simp [Dk.fs', ha]
    have hc := HCl.out w D HD.out rfl HK.out (Kd.refl _ _)
    clear HCl
    go_enter Tryz.func57, Tryz.ntmps57
    go_wp2_with (go_at_call 60; refine hc.mono ?_; rintro e w3 ⟨⟨v3, rfl⟩, hq3, hq4⟩)
    go_ret
    rw [actA_f HR.out.1, HR.out.2]
    exact ⟨rfl, hq3, hq4⟩
  | true =>
    rw [ha] at k2
    by_cases h0 : D.acts = 0
    · have HB : Hid (actB D = true) := by show _ = _; unfold actB; rw [ha, h0]; rfl
      rw [h0] at k3
      cases hn : D.dn with
      | true =>
        rw [hn] at k4
        have HR : Hid (actD D fs = { D.fs' fs with dw := true }) := by show _ = _; unfold actD; rw [HB.out]; simp [Dk.fs', hn]
        have hc := HCl.out w D HD.out rfl HK.out (Kd.refl _ _)
        clear HCl
        go_enter Tryz.func57, Tryz.ntmps57
        go_wp2_with (go_at_call 60; refine hc.mono ?_; rintro e w3 ⟨⟨v3, rfl⟩, hq3, hq4⟩
                     have HQ : Hid (Dm w3 x (up F w) (D.fs' fs) ∧ Kd F w w3) := ⟨hq3, hq4⟩
                     obtain ⟨y1, y2, y3, y4⟩ := hq3.dw true
                     have y5 := HV.out ▸ (set_cell (g := x) (j := 5) (u := Value.bool true) (hq4.cell HE.out.1 HE.out.2.1) (fun e => hxE e.symm))
                     clear hq3 hq4 y1 y4)
        go_ret
        rw [actA_t HB.out, HR.out]
        refine ⟨by rw [HV.out]; rfl, (HQ.out.1.dw true).1, HQ.out.2.trans (Kd.set HE.out.2.2)⟩
      | false =>
        rw [hn] at k4
        have HR : Hid (actD D fs = { D with dw := true }) := by show _ = _; unfold actD; rw [HB.out]; simp [hn]
        have y5 := HV.out ▸ (set_cell (g := x) (j := 5) (u := Value.bool true) HE.out.1 (fun e => hxE e.symm))
        clear HCl
        go_enter Tryz.func57, Tryz.ntmps57
        go_wp2
        go_ret
        rw [actA_t HB.out, HR.out]
        exact ⟨by rw [HV.out]; rfl, ((HD.out.dw true).1).mono (fun k h _ => .inl h), Kd.set HE.out.2.2⟩
    · have HB : Hid (actB D = false) := by show _ = _; unfold actB; rw [ha]; simp [h0]
      have hz : ¬ D.acts = 0 := h0
      have hzb : (D.acts == 0) = false := by simp [h0]
      have HR : Hid (actD D fs = { D with fs := fs, acts := D.acts - 1 }) := by show _ = _; unfold actD; rw [HB.out]; simp [ha]
      have hwa : IntKind.i64.wrap (D.acts - 1) = D.acts - 1 := by have := HK.out.acts; rw [IntKind.wrap_i64]; omega
      obtain ⟨W, hW⟩ : ∃ W, w.setCell ⟨x, 3, none⟩ (.int .i64 (D.acts - 1)) = W := ⟨_, rfl⟩
      have hK1 : Kd F w W := by rw [← hW]; exact Kd.set HE.out.2.2
      have hDW : Dm W x F { D with acts := D.acts - 1 } := by rw [← hW]; exact (HD.out.ac _).1
      have hc := HCl.out W { D with acts := D.acts - 1 } hDW rfl ⟨HK.out.fs, HK.out.len, HK.out.used, HK.out.room, by have := HK.out.acts; show 0 ≤ D.acts - 1 ∧ D.acts - 1 ≤ _; omega⟩ hK1
      have HK1 : Hid (Kd F w W ∧ W.heap.size = w.heap.size) := ⟨hK1, by rw [← hW]; simp [World.setCell]⟩
      clear HCl hK1 hDW
      go_enter Tryz.func57, Tryz.ntmps57
      go_wp2_with (go_at_call 60; refine hc.mono ?_; rintro e w3 ⟨⟨v3, rfl⟩, hq3, hq4⟩
                   have HQ : Hid (Dm w3 x (up F W) ({ D with acts := D.acts - 1 }.fs' fs) ∧ Kd F W w3) := ⟨hq3, hq4⟩
                   clear hq3 hq4)
      go_ret
      rw [actA_f HB.out, HR.out]
      refine ⟨rfl, HQ.out.1.mono (fun k h _ => h.imp id (fun e => by have := HK1.out.2; omega)), HK1.out.1.trans HQ.out.2⟩


set_option maxHeartbeats 4000000 in
set_option maxRecDepth 20000 in
theorem actRen (w : World) (x : Nat) (F : Nat → Prop) (D : Dk) (fs : List Fl) (B : Nat) (p q r : Value) (aD : Addr) (h : Dm w x F D) (hk : D.Ok B) (hE : w.cell? ⟨0, 0, none⟩ = some (errV aD)) (nE : ¬ F 0)
    (hcl : ∀ V D1, Dm V x F D1 → D1.fs = D.fs → D1.Ok B → Kd F w V → Calls Tryz.prog 84 #[p, q, r] V fun e w' => ClP x F D1 fs V e w') :
    Calls Tryz.prog 57 #[.pointer (some ⟨x, 0, none⟩), .func (.func 84) #[] #[p, q, r]] w fun e w' => e = .returned (actA D aD) ∧ Dm w' x (up F w) (actD D fs) ∧ Kd F w w' := by
  obtain ⟨k2, k4, _⟩ := h.c2
  obtain ⟨_, k3, z3, hfx⟩ := h.ac 0
  obtain ⟨_, k5, z5, _⟩ := h.dw true
  have hxE : x ≠ 0 := fun e => nE (e ▸ hfx)
  have HD : Hid (Dm w x F D) := h
  have HE : Hid (w.cell? ⟨0, 0, none⟩ = some (errV aD) ∧ (¬ F 0) ∧ F x) := ⟨hE, nE, hfx⟩
  obtain ⟨ev, hev⟩ : ∃ v, errV aD = v := ⟨_, rfl⟩
  have hev' : ∃ t p, ev = .iface t p := ⟨_, _, hev.symm⟩
  have HV : Hid (errV aD = ev) := hev
  rw [hev] at hE
  obtain ⟨tE, pE, rfl⟩ := hev'
  have HCl : Hid (∀ V D1, Dm V x F D1 → D1.fs = D.fs → D1.Ok B → Kd F w V → Calls Tryz.prog 84 #[p, q, r] V fun e w' => ClP x F D1 fs V e w') := hcl
  have HK : Hid (D.Ok B) := hk
  clear h hcl hk nE hev
  cases ha : D.arm with
  | false =>
    rw [ha] at k2
    have HR : Hid (actB D = false ∧ actD D fs = D.fs' fs) := by
      have h1 : actB D = false := by unfold actB; rw [ha]; rfl
      refine ⟨h1, ?_⟩
      unfold actD
      rw [h1]
      simp [Dk.fs', ha]
    have hc := HCl.out w D HD.out rfl HK.out (Kd.refl _ _)
    clear HCl
    go_enter Tryz.func57, Tryz.ntmps57
    go_wp2_with (go_at_call 84; refine hc.mono ?_; rintro e w3 ⟨⟨v3, rfl⟩, hq3, hq4⟩)
    go_ret
    rw [actA_f HR.out.1, HR.out.2]
    exact ⟨rfl, hq3, hq4⟩
  | true =>
    rw [ha] at k2
    by_cases h0 : D.acts = 0
    · have HB : Hid (actB D = true) := by show _ = _; unfold actB; rw [ha, h0]; rfl
      rw [h0] at k3
      cases hn : D.dn with
      | true =>
        rw [hn] at k4
        have HR : Hid (actD D fs = { D.fs' fs with dw := true }) := by show _ = _; unfold actD; rw [HB.out]; simp [Dk.fs', hn]
        have hc := HCl.out w D HD.out rfl HK.out (Kd.refl _ _)
        clear HCl
        go_enter Tryz.func57, Tryz.ntmps57
        go_wp2_with (go_at_call 84; refine hc.mono ?_; rintro e w3 ⟨⟨v3, rfl⟩, hq3, hq4⟩
                     have HQ : Hid (Dm w3 x (up F w) (D.fs' fs) ∧ Kd F w w3) := ⟨hq3, hq4⟩
                     obtain ⟨y1, y2, y3, y4⟩ := hq3.dw true
                     have y5 := HV.out ▸ (set_cell (g := x) (j := 5) (u := Value.bool true) (hq4.cell HE.out.1 HE.out.2.1) (fun e => hxE e.symm))
                     clear hq3 hq4 y1 y4)
        go_ret
        rw [actA_t HB.out, HR.out]
        refine ⟨by rw [HV.out]; rfl, (HQ.out.1.dw true).1, HQ.out.2.trans (Kd.set HE.out.2.2)⟩
      | false =>
        rw [hn] at k4
        have HR : Hid (actD D fs = { D with dw := true }) := by show _ = _; unfold actD; rw [HB.out]; simp [hn]
        have y5 := HV.out ▸ (set_cell (g := x) (j := 5) (u := Value.bool true) HE.out.1 (fun e => hxE e.symm))
        clear HCl
        go_enter Tryz.func57, Tryz.ntmps57
        go_wp2
        go_ret
        rw [actA_t HB.out, HR.out]
        exact ⟨by rw [HV.out]; rfl, ((HD.out.dw true).1).mono (fun k h _ => .inl h), Kd.set HE.out.2.2⟩
    · have HB : Hid (actB D = false) := by show _ = _; unfold actB; rw [ha]; simp [h0]
      have hz : ¬ D.acts = 0 := h0
      have hzb : (D.acts == 0) = false := by simp [h0]
      have HR : Hid (actD D fs = { D with fs := fs, acts := D.acts - 1 }) := by show _ = _; unfold actD; rw [HB.out]; simp [ha]
      have hwa : IntKind.i64.wrap (D.acts - 1) = D.acts - 1 := by have := HK.out.acts; rw [IntKind.wrap_i64]; omega
      obtain ⟨W, hW⟩ : ∃ W, w.setCell ⟨x, 3, none⟩ (.int .i64 (D.acts - 1)) = W := ⟨_, rfl⟩
      have hK1 : Kd F w W := by rw [← hW]; exact Kd.set HE.out.2.2
      have hDW : Dm W x F { D with acts := D.acts - 1 } := by rw [← hW]; exact (HD.out.ac _).1
      have hc := HCl.out W { D with acts := D.acts - 1 } hDW rfl ⟨HK.out.fs, HK.out.len, HK.out.used, HK.out.room, by have := HK.out.acts; show 0 ≤ D.acts - 1 ∧ D.acts - 1 ≤ _; omega⟩ hK1
      have HK1 : Hid (Kd F w W ∧ W.heap.size = w.heap.size) := ⟨hK1, by rw [← hW]; simp [World.setCell]⟩
      clear HCl hK1 hDW
      go_enter Tryz.func57, Tryz.ntmps57
      go_wp2_with (go_at_call 84; refine hc.mono ?_; rintro e w3 ⟨⟨v3, rfl⟩, hq3, hq4⟩
                   have HQ : Hid (Dm w3 x (up F W) ({ D with acts := D.acts - 1 }.fs' fs) ∧ Kd F W w3) := ⟨hq3, hq4⟩
                   clear hq3 hq4)
      go_ret
      rw [actA_f HB.out, HR.out]
      refine ⟨rfl, HQ.out.1.mono (fun k h _ => h.imp id (fun e => by have := HK1.out.2; omega)), HK1.out.1.trans HQ.out.2⟩


set_option maxHeartbeats 4000000 in
set_option maxRecDepth 20000 in
theorem actRem (w : World) (x : Nat) (F : Nat → Prop) (D : Dk) (fs : List Fl) (B : Nat) (p q : Value) (aD : Addr) (h : Dm w x F D) (hk : D.Ok B) (hE : w.cell? ⟨0, 0, none⟩ = some (errV aD)) (nE : ¬ F 0)
    (hcl : ∀ V D1, Dm V x F D1 → D1.fs = D.fs → D1.Ok B → Kd F w V → Calls Tryz.prog 101 #[p, q] V fun e w' => ClP x F D1 fs V e w') :
    Calls Tryz.prog 57 #[.pointer (some ⟨x, 0, none⟩), .func (.func 101) #[] #[p, q]] w fun e w' => e = .returned (actA D aD) ∧ Dm w' x (up F w) (actD D fs) ∧ Kd F w w' := by
  obtain ⟨k2, k4, _⟩ := h.c2
  obtain ⟨_, k3, z3, hfx⟩ := h.ac 0
  obtain ⟨_, k5, z5, _⟩ := h.dw true
  have hxE : x ≠ 0 := fun e => nE (e ▸ hfx)
  have HD : Hid (Dm w x F D) := h
  have HE : Hid (w.cell? ⟨0, 0, none⟩ = some (errV aD) ∧ (¬ F 0) ∧ F x) := ⟨hE, nE, hfx⟩
  obtain ⟨ev, hev⟩ : ∃ v, errV aD = v := ⟨_, rfl⟩
  have hev' : ∃ t p, ev = .iface t p := ⟨_, _, hev.symm⟩
  have HV : Hid (errV aD = ev) := hev
  rw [hev] at hE
  obtain ⟨tE, pE, rfl⟩ := hev'
  have HCl : Hid (∀ V D1, Dm V x F D1 → D1.fs = D.fs → D1.Ok B → Kd F w V → Calls Tryz.prog 101 #[p, q] V fun e w' => ClP x F D1 fs V e w') := hcl
  have HK : Hid (D.Ok B) := hk
  clear h hcl hk nE hev
  cases ha : D.arm with
  | false =>
    rw [ha] at k2
    have HR : Hid (actB D = false ∧ actD D fs = D.fs' fs) := by
      have h1 : actB D = false := by unfold actB; rw [ha]; rfl
      refine ⟨h1, ?_⟩
      unfold actD
      rw [h1]
      simp [Dk.fs', ha]
    have hc := HCl.out w D HD.out rfl HK.out (Kd.refl _ _)
    clear HCl
    go_enter Tryz.func57, Tryz.ntmps57
    go_wp2_with (go_at_call 101; refine hc.mono ?_; rintro e w3 ⟨⟨v3, rfl⟩, hq3, hq4⟩)
    go_ret
    rw [actA_f HR.out.1, HR.out.2]
    exact ⟨rfl, hq3, hq4⟩
  | true =>
    rw [ha] at k2
    by_cases h0 : D.acts = 0
    · have HB : Hid (actB D = true) := by show _ = _; unfold actB; rw [ha, h0]; rfl
      rw [h0] at k3
      cases hn : D.dn with
      | true =>
        rw [hn] at k4
        have HR : Hid (actD D fs = { D.fs' fs with dw := true }) := by show _ = _; unfold actD; rw [HB.out]; simp [Dk.fs', hn]
        have hc := HCl.out w D HD.out rfl HK.out (Kd.refl _ _)
        clear HCl
        go_enter Tryz.func57, Tryz.ntmps57
        go_wp2_with (go_at_call 101; refine hc.mono ?_; rintro e w3 ⟨⟨v3, rfl⟩, hq3, hq4⟩
                     have HQ : Hid (Dm w3 x (up F w) (D.fs' fs) ∧ Kd F w w3) := ⟨hq3, hq4⟩
                     obtain ⟨y1, y2, y3, y4⟩ := hq3.dw true
                     have y5 := HV.out ▸ (set_cell (g := x) (j := 5) (u := Value.bool true) (hq4.cell HE.out.1 HE.out.2.1) (fun e => hxE e.symm))
                     clear hq3 hq4 y1 y4)
        go_ret
        rw [actA_t HB.out, HR.out]
        refine ⟨by rw [HV.out]; rfl, (HQ.out.1.dw true).1, HQ.out.2.trans (Kd.set HE.out.2.2)⟩
      | false =>
        rw [hn] at k4
        have HR : Hid (actD D fs = { D with dw := true }) := by show _ = _; unfold actD; rw [HB.out]; simp [hn]
        have y5 := HV.out ▸ (set_cell (g := x) (j := 5) (u := Value.bool true) HE.out.1 (fun e => hxE e.symm))
        clear HCl
        go_enter Tryz.func57, Tryz.ntmps57
        go_wp2
        go_ret
        rw [actA_t HB.out, HR.out]
        exact ⟨by rw [HV.out]; rfl, ((HD.out.dw true).1).mono (fun k h _ => .inl h), Kd.set HE.out.2.2⟩
    · have HB : Hid (actB D = false) := by show _ = _; unfold actB; rw [ha]; simp [h0]
      have hz : ¬ D.acts = 0 := h0
      have hzb : (D.acts == 0) = false := by simp [h0]
      have HR : Hid (actD D fs = { D with fs := fs, acts := D.acts - 1 }) := by show _ = _; unfold actD; rw [HB.out]; simp [ha]
      have hwa : IntKind.i64.wrap (D.acts - 1) = D.acts - 1 := by have := HK.out.acts; rw [IntKind.wrap_i64]; omega
      obtain ⟨W, hW⟩ : ∃ W, w.setCell ⟨x, 3, none⟩ (.int .i64 (D.acts - 1)) = W := ⟨_, rfl⟩
      have hK1 : Kd F w W := by rw [← hW]; exact Kd.set HE.out.2.2
      have hDW : Dm W x F { D with acts := D.acts - 1 } := by rw [← hW]; exact (HD.out.ac _).1
      have hc := HCl.out W { D with acts := D.acts - 1 } hDW rfl ⟨HK.out.fs, HK.out.len, HK.out.used, HK.out.room, by have := HK.out.acts; show 0 ≤ D.acts - 1 ∧ D.acts - 1 ≤ _; omega⟩ hK1
      have HK1 : Hid (Kd F w W ∧ W.heap.size = w.heap.size) := ⟨hK1, by rw [← hW]; simp [World.setCell]⟩
      clear HCl hK1 hDW
      go_enter Tryz.func57, Tryz.ntmps57
      go_wp2_with (go_at_call 101; refine hc.mono ?_; rintro e w3 ⟨⟨v3, rfl⟩, hq3, hq4⟩
                   have HQ : Hid (Dm w3 x (up F W) ({ D with acts := D.acts - 1 }.fs' fs) ∧ Kd F W w3) := ⟨hq3, hq4⟩
                   clear hq3 hq4)
      go_ret
      rw [actA_f HB.out, HR.out]
      refine ⟨rfl, HQ.out.1.mono (fun k h _ => h.imp id (fun e => by have := HK1.out.2; omega)), HK1.out.1.trans HQ.out.2⟩


set_option maxHeartbeats 4000000 in
set_option maxRecDepth 20000 in
theorem actCut (w : World) (x : Nat) (F : Nat → Prop) (D : Dk) (fs : List Fl) (B : Nat) (p q r : Value) (aD : Addr) (h : Dm w x F D) (hk : D.Ok B) (hE : w.cell? ⟨0, 0, none⟩ = some (errV aD)) (nE : ¬ F 0)
    (hcl : ∀ V D1, Dm V x F D1 → D1.fs = D.fs → D1.Ok B → Kd F w V → Calls Tryz.prog 76 #[p, q, r] V fun e w' => ClP x F D1 fs V e w') :
    Calls Tryz.prog 57 #[.pointer (some ⟨x, 0, none⟩), .func (.func 76) #[] #[p, q, r]] w fun e w' => e = .returned (actA D aD) ∧ Dm w' x (up F w) (actD D fs) ∧ Kd F w w' := by
  obtain ⟨k2, k4, _⟩ := h.c2
  obtain ⟨_, k3, z3, hfx⟩ := h.ac 0
  obtain ⟨_, k5, z5, _⟩ := h.dw true
  have hxE : x ≠ 0 := fun e => nE (e ▸ hfx)
  have HD : Hid (Dm w x F D) := h
  have HE : Hid (w.cell? ⟨0, 0, none⟩ = some (errV aD) ∧ (¬ F 0) ∧ F x) := ⟨hE, nE, hfx⟩
  obtain ⟨ev, hev⟩ : ∃ v, errV aD = v := ⟨_, rfl⟩
  have hev' : ∃ t p, ev = .iface t p := ⟨_, _, hev.symm⟩
  have HV : Hid (errV aD = ev) := hev
  rw [hev] at hE
  obtain ⟨tE, pE, rfl⟩ := hev'
  have HCl : Hid (∀ V D1, Dm V x F D1 → D1.fs = D.fs → D1.Ok B → Kd F w V → Calls Tryz.prog 76 #[p, q, r] V fun e w' => ClP x F D1 fs V e w') := hcl
  have HK : Hid (D.Ok B) := hk
  clear h hcl hk nE hev
  cases ha : D.arm with
  | false =>
    rw [ha] at k2
    have HR : Hid (actB D = false ∧ actD D fs = D.fs' fs) := by
      have h1 : actB D = false := by unfold actB; rw [ha]; rfl
      refine ⟨h1, ?_⟩
      unfold actD
      rw [h1]
      simp [Dk.fs', ha]
    have hc := HCl.out w D HD.out rfl HK.out (Kd.refl _ _)
    clear HCl
    go_enter Tryz.func57, Tryz.ntmps57
    go_wp2_with (go_at_call 76; refine hc.mono ?_; rintro e w3 ⟨⟨v3, rfl⟩, hq3, hq4⟩)
    go_ret
    rw [actA_f HR.out.1, HR.out.2]
    exact ⟨rfl, hq3, hq4⟩
  | true =>
    rw [ha] at k2
    by_cases h0 : D.acts = 0
    · have HB : Hid (actB D = true) := by show _ = _; unfold actB; rw [ha, h0]; rfl
      rw [h0] at k3
      cases hn : D.dn with
      | true =>
        rw [hn] at k4
        have HR : Hid (actD D fs = { D.fs' fs with dw := true }) := by show _ = _; unfold actD; rw [HB.out]; simp [Dk.fs', hn]
        have hc := HCl.out w D HD.out rfl HK.out (Kd.refl _ _)
        clear HCl
        go_enter Tryz.func57, Tryz.ntmps57
        go_wp2_with (go_at_call 76; refine hc.mono ?_; rintro e w3 ⟨⟨v3, rfl⟩, hq3, hq4⟩
                     have HQ : Hid (Dm w3 x (up F w) (D.fs' fs) ∧ Kd F w w3) := ⟨hq3, hq4⟩
                     obtain ⟨y1, y2, y3, y4⟩ := hq3.dw true
                     have y5 := HV.out ▸ (set_cell (g := x) (j := 5) (u := Value.bool true) (hq4.cell HE.out.1 HE.out.2.1) (fun e => hxE e.symm))
                     clear hq3 hq4 y1 y4)
        go_ret
        rw [actA_t HB.out, HR.out]
        refine ⟨by rw [HV.out]; rfl, (HQ.out.1.dw true).1, HQ.out.2.trans (Kd.set HE.out.2.2)⟩
      | false =>
        rw [hn] at k4
        have HR : Hid (actD D fs = { D with dw := true }) := by show _ = _; unfold actD; rw [HB.out]; simp [hn]
        have y5 := HV.out ▸ (set_cell (g := x) (j := 5) (u := Value.bool true) HE.out.1 (fun e => hxE e.symm))
        clear HCl
        go_enter Tryz.func57, Tryz.ntmps57
        go_wp2
        go_ret
        rw [actA_t HB.out, HR.out]
        exact ⟨by rw [HV.out]; rfl, ((HD.out.dw true).1).mono (fun k h _ => .inl h), Kd.set HE.out.2.2⟩
    · have HB : Hid (actB D = false) := by show _ = _; unfold actB; rw [ha]; simp [h0]
      have hz : ¬ D.acts = 0 := h0
      have hzb : (D.acts == 0) = false := by simp [h0]
      have HR : Hid (actD D fs = { D with fs := fs, acts := D.acts - 1 }) := by show _ = _; unfold actD; rw [HB.out]; simp [ha]
      have hwa : IntKind.i64.wrap (D.acts - 1) = D.acts - 1 := by have := HK.out.acts; rw [IntKind.wrap_i64]; omega
      obtain ⟨W, hW⟩ : ∃ W, w.setCell ⟨x, 3, none⟩ (.int .i64 (D.acts - 1)) = W := ⟨_, rfl⟩
      have hK1 : Kd F w W := by rw [← hW]; exact Kd.set HE.out.2.2
      have hDW : Dm W x F { D with acts := D.acts - 1 } := by rw [← hW]; exact (HD.out.ac _).1
      have hc := HCl.out W { D with acts := D.acts - 1 } hDW rfl ⟨HK.out.fs, HK.out.len, HK.out.used, HK.out.room, by have := HK.out.acts; show 0 ≤ D.acts - 1 ∧ D.acts - 1 ≤ _; omega⟩ hK1
      have HK1 : Hid (Kd F w W ∧ W.heap.size = w.heap.size) := ⟨hK1, by rw [← hW]; simp [World.setCell]⟩
      clear HCl hK1 hDW
      go_enter Tryz.func57, Tryz.ntmps57
      go_wp2_with (go_at_call 76; refine hc.mono ?_; rintro e w3 ⟨⟨v3, rfl⟩, hq3, hq4⟩
                   have HQ : Hid (Dm w3 x (up F W) ({ D with acts := D.acts - 1 }.fs' fs) ∧ Kd F W w3) := ⟨hq3, hq4⟩
                   clear hq3 hq4)
      go_ret
      rw [actA_f HB.out, HR.out]
      refine ⟨rfl, HQ.out.1.mono (fun k h _ => h.imp id (fun e => by have := HK1.out.2; omega)), HK1.out.1.trans HQ.out.2⟩

end Go.Proofs.YtllhbhogfffedaaGreatDoor.K
