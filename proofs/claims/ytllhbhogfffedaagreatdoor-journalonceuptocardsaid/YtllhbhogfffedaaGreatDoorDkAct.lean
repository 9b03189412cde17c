import Derived.Test.YtllhbhogfffedaaGreatDoorDkCl4
namespace Go.Proofs.YtllhbhogfffedaaGreatDoor.K
open Go.RowKit
set_option linter.unusedVariables false
set_option linter.unusedSimpArgs false

/-- An act: carried out, or the disk goes down on it. -/
def actB (D : Dk) : Bool := D.arm && decide (D.acts = 0)
def actD (D : Dk) (fs : List Fl) : Dk := if actB D = true then { D with fs := if D.dn = true then fs else D.fs, dw := true } else { D with fs := fs, acts := if D.arm = true then D.acts - 1 else D.acts }
def errV (a : Addr) : Value := .iface 218 (.pointer (some a))
/-- What an act answers: 0 nothing, 1 full, 2 down, 3 no such file. -/
def evD (aD aF aN : Addr) (r : Nat) : Value := if r = 0 then .nilIface else if r = 1 then errV aF else if r = 2 then errV aD else errV aN
def actA (D : Dk) (aD : Addr) : Value := if actB D = true then errV aD else .nilIface
theorem actA_t {D : Dk} {aD : Addr} (h : actB D = true) : actA D aD = errV aD := by unfold actA; rw [h]; rfl
theorem actA_f {D : Dk} {aD : Addr} (h : actB D = false) : actA D aD = .nilIface := by unfold actA; rw [h]; rfl
def actR (D : Dk) : Nat := if actB D = true then 2 else 0
section
variable {w : World} {x : Nat} {F : Nat → Prop} {D : Dk}
theorem Dm.dw (h : Dm w x F D) (b : Bool) : Dm (w.setCell ⟨x, 5, none⟩ (.bool b)) x F { D with dw := b } ∧ w.cell? ⟨x, 5, none⟩ = some (.bool D.dw) ∧ w.frozen? ⟨x, 5, none⟩ = false ∧ F x := by
  obtain ⟨vf, L, h⟩ := h
  exact ⟨⟨vf, L, h.boxed rfl (heap_setCell_same w x 5 _ _ _ h.box) (fun k hk => heap_setCell_other _ _ _ _ hk)⟩, h.c 5, h.z 5, h.fx⟩
theorem Dm.ac (h : Dm w x F D) (a : Int) : Dm (w.setCell ⟨x, 3, none⟩ (.int .i64 a)) x F { D with acts := a } ∧ w.cell? ⟨x, 3, none⟩ = some (.int .i64 D.acts) ∧ w.frozen? ⟨x, 3, none⟩ = false ∧ F x := by
  obtain ⟨vf, L, h⟩ := h
  exact ⟨⟨vf, L, h.boxed rfl (heap_setCell_same w x 3 _ _ _ h.box) (fun k hk => heap_setCell_other _ _ _ _ hk)⟩, h.c 3, h.z 3, h.fx⟩
theorem Dm.c2 (h : Dm w x F D) : w.cell? ⟨x, 2, none⟩ = some (.bool D.arm) ∧ w.cell? ⟨x, 4, none⟩ = some (.bool D.dn) ∧ w.cell? ⟨x, 1, none⟩ = some (.int .i64 D.room) := by
  obtain ⟨vf, L, h⟩ := h
  exact ⟨h.c 2, h.c 4, h.c 1⟩
end


set_option maxHeartbeats 4000000 in
set_option maxRecDepth 20000 in
theorem actApp (w : World) (x : Nat) (F : Nat → Prop) (D : Dk) (fs : List Fl) (B : Nat) (p q r : Value) (aD : Addr) (h : Dm w x F D) (hk : D.Ok B) (hE : w.cell? ⟨0, 0, none⟩ = some (errV aD)) (nE : ¬ F 0)
    (hcl : ∀ V D1, Dm V x F D1 → D1.fs = D.fs → D1.Ok B → Kd F w V → Calls Tryz.prog 58 #[p, q, r] V fun e w' => ClP x F D1 fs V e w') :
    Calls Tryz.prog 57 #[.pointer (some ⟨x, 0, none⟩), .func (.func 58) #[] #[p, q, r]] w fun e w' => e = .returned (actA D aD) ∧ Dm w' x (up F w) (actD D fs) ∧ Kd F w w' := by
  obtain ⟨k2, k4, _⟩ := h.c2
  obtain ⟨_, k3, z3, hfx⟩ := h.ac 0
  obtain ⟨_, k5, z5, _⟩ := h.dw true
  have hxE : x ≠ 0 := fun e => nE (e ▸ hfx)
  have HD : Hid (Dm w x F D) := h
  have HE : Hid (w.cell? ⟨0, 0, none⟩ = some (errV aD) ∧ (¬ F 0) ∧ F x) := ⟨hE, nE, hfx⟩
  obtain ⟨ev, hev⟩ : ∃ v, errV aD = v := ⟨_, rfl⟩
  have hev' : ∃ t p, ev = .iface t p := ⟨_, _, hev.symm⟩
  have HV : Hid (errV aD = ev) := hev
  rw [hev] at hE
  obtain ⟨tE, pE, rfl⟩ := hev'
  have HCl : Hid (∀ V D1, Dm V x F D1 → D1.fs = D.fs → D1.Ok B → Kd F w V → Calls Tryz.prog 58 #[p, q, r] V fun e w' => ClP x F D1 fs V e w') := hcl
  have HK : Hid (D.Ok B) := hk
  clear h hcl hk nE hev
  cases ha : D.arm with
  | false =>
    rw [ha] at k2
    have HR : Hid (actB D = false ∧ actD D fs = D.fs' fs) := by
      have h1 : actB D = false := by unfold actB; rw [ha]; rfl
      refine ⟨h1, ?_⟩
      unfold actD
      rw [h1]
      simp [Dk.fs', ha]
    have hc := HCl.out w D HD.out rfl HK.out (Kd.refl _ _)
    clear HCl
    go_enter Tryz.func57, Tryz.ntmps57
    go_wp2_with (go_at_call 58; refine hc.mono ?_; rintro e w3 ⟨⟨v3, rfl⟩, hq3, hq4⟩)
    go_ret
    rw [actA_f HR.out.1, HR.out.2]
    exact ⟨rfl, hq3, hq4⟩
  | true =>
    rw [ha] at k2
    by_cases h0 : D.acts = 0
    · have HB : Hid (actB D = true) := by show _ = _; unfold actB; rw [ha, h0]; rfl
      rw [h0] at k3
      cases hn : D.dn with
      | true =>
        rw [hn] at k4
        have HR : Hid (actD D fs = { D.fs' fs with dw := true }) := by show _ = _; unfold actD; rw [HB.out]; simp [Dk.fs', hn]
        have hc := HCl.out w D HD.out rfl HK.out (Kd.refl _ _)
        clear HCl
        go_enter Tryz.func57, Tryz.ntmps57
        go_wp2_with (go_at_call 58; refine hc.mono ?_; rintro e w3 ⟨⟨v3, rfl⟩, hq3, hq4⟩
                     have HQ : Hid (Dm w3 x (up F w) (D.fs' fs) ∧ Kd F w w3) := ⟨hq3, hq4⟩
                     obtain ⟨y1, y2, y3, y4⟩ := hq3.dw true
                     have y5 := HV.out ▸ (set_cell (g := x) (j := 5) (u := Value.bool true) (hq4.cell HE.out.1 HE.out.2.1) (fun e => hxE e.symm))
                     clear hq3 hq4 y1 y4)
        go_ret
        rw [actA_t HB.out, HR.out]
        refine ⟨by rw [HV.out]; rfl, (HQ.out.1.dw true).1, HQ.out.2.trans (Kd.set HE.out.2.2)⟩
      | false =>
        rw [hn] at k4
        have HR : Hid (actD D fs = { D with dw := true }) := by show _ = _; unfold actD; rw [HB.out]; simp [hn]
        have y5 := HV.out ▸ (set_cell (g := x) (j := 5) (u := Value.bool true) HE.out.1 (fun e => hxE e.symm))
        clear HCl
        go_enter Tryz.func57, Tryz.ntmps57
        go_wp2
        go_ret
        rw [actA_t HB.out, HR.out]
        exact ⟨by rw [HV.out]; rfl, ((HD.out.dw true).1).mono (fun k h _ => .inl h), Kd.set HE.out.2.2⟩
    · have HB : Hid (actB D = false) := by show _ = _; unfold actB; rw [ha]; simp [h0]
      have hz : ¬ D.acts = 0 := h0
      have hzb : (D.acts == 0) = false := by simp [h0]
      have HR : Hid (actD D fs = { D with fs := fs, acts := D.acts - 1 }) := by show _ = _; unfold actD; rw [HB.out]; simp [ha]
      have hwa : IntKind.i64.wrap (D.acts - 1) = D.acts - 1 := by have := HK.out.acts; rw [IntKind.wrap_i64]; omega
      obtain ⟨W, hW⟩ : ∃ W, w.setCell ⟨x, 3, none⟩ (.int .i64 (D.acts - 1)) = W := ⟨_, rfl⟩
      have hK1 : Kd F w W := by rw [← hW]; exact Kd.set HE.out.2.2
      have hDW : Dm W x F { D with acts := D.acts - 1 } := by rw [← hW]; exact (HD.out.ac _).1
      have hc := HCl.out W { D with acts := D.acts - 1 } hDW rfl ⟨HK.out.fs, HK.out.len, HK.out.used, HK.out.room, by have := HK.out.acts; show 0 ≤ D.acts - 1 ∧ D.acts - 1 ≤ _; omega⟩ hK1
      have HK1 : Hid (Kd F w W ∧ W.heap.size = w.heap.size) := ⟨hK1, by rw [← hW]; simp [World.setCell]⟩
      clear HCl hK1 hDW
      go_enter Tryz.func57, Tryz.ntmps57
      go_wp2_with (go_at_call 58; refine hc.mono ?_; rintro e w3 ⟨⟨v3, rfl⟩, hq3, hq4⟩
                   have HQ : Hid (Dm w3 x (up F W) ({ D with acts := D.acts - 1 }.fs' fs) ∧ Kd F W w3) := ⟨hq3, hq4⟩
                   clear hq3 hq4)
      go_ret
      rw [actA_f HB.out, HR.out]
      refine ⟨rfl, HQ.out.1.mono (fun k h _ => h.imp id (fun e => by have := HK1.out.2; omega)), HK1.out.1.trans HQ.out.2⟩


set_option maxHeartbeats 4000000 in
set_option maxRecDepth 20000 in
theorem actSyn (w : World) (x : Nat) (F : Nat → Prop) (D : Dk) (fs : List Fl) (B : Nat) (p q : Value) (aD : Addr) (h : Dm w x F D) (hk : D.Ok B) (hE : w.cell? ⟨0, 0, none⟩ = some (errV aD)) (nE : ¬ F 0)
    (hcl : ∀ V D1, Dm V x F D1 → D1.fs = D.fs → D1.Ok B → Kd F w V → Calls Tryz.prog 60 #[p, q] V fun e w' => ClP x F D1 fs V e w') :
    Calls Tryz.prog 57 #[.pointer (some ⟨x, 0, none⟩), .func (.func 60) #[] #[p, q]] w fun e w' => e = .returned (actA D aD) ∧ Dm w' x (up F w) (actD D fs) ∧ Kd F w w' := by
  obtain ⟨k2, k4, _⟩ := h.c2
  obtain ⟨_, k3, z3, hfx⟩ := h.ac 0
  obtain ⟨_, k5, z5, _⟩ := h.dw true
  have hxE : x ≠ 0 := fun e => nE (e ▸ hfx)
  have HD : Hid (Dm w x F D) := h
  have HE : Hid (w.cell? ⟨0, 0, none⟩ = some (errV aD) ∧ (¬ F 0) ∧ F x) := ⟨hE, nE, hfx⟩
  obtain ⟨ev, hev⟩ : ∃ v, errV aD = v := ⟨_, rfl⟩
  have hev' : ∃ t p, ev = .iface t p := ⟨_, _, hev.symm⟩
  have HV : Hid (errV aD = ev) := hev
  rw [hev] at hE
  obtain ⟨tE, pE, rfl⟩ := hev'
  have HCl : Hid (∀ V D1, Dm V x F D1 → D1.fs = D.fs → D1.Ok B → Kd F w V → Calls Tryz.prog 60 #[p, q] V fun e w' => ClP x F D1 fs V e w') := hcl
  have HK : Hid (D.Ok B) := hk
  clear h hcl hk nE hev
  cases ha : D.arm with
  | false =>
    rw [ha] at k2
    have HR : Hid (actB D = false ∧ actD D fs = D.fs' fs) := by
      have h1 : actB D = false := by unfold actB; rw [ha]; rfl
      refine ⟨h1, ?_⟩
      unfold actD
      rw [h1]
      simp [Dk.fs', ha]
    have hc := HCl.out w D HD.out rfl HK.out (Kd.refl _ _)
    clear HCl
    go_enter Tryz.func57, Tryz.ntmps57
    go_wp2_with (go_at_call 60; refine hc.mono ?_; rintro e w3 ⟨⟨v3, rfl⟩, hq3, hq4⟩)
    go_ret
    rw [actA_f HR.out.1, HR.out.2]
    exact ⟨rfl, hq3, hq4⟩
  | true =>
    rw [ha] at k2
    by_cases h0 : D.acts = 0
    · have HB : Hid (actB D = true) := by show _ = _; unfold actB; rw [ha, h0]; rfl
      rw [h0] at k3
      cases hn : D.dn with
      | true =>
        rw [hn] at k4
        have HR : Hid (actD D fs = { D.fs' fs with dw := true }) := by show _ = _; unfold actD; rw [HB.out]; simp [Dk.fs', hn]
        have hc := HCl.out w D HD.out rfl HK.out (Kd.refl _ _)
        clear HCl
        go_enter Tryz.func57, Tryz.ntmps57
        go_wp2_with (go_at_call 60; refine hc.mono ?_; rintro e w3 ⟨⟨v3, rfl⟩, hq3, hq4⟩
                     have HQ : Hid (Dm w3 x (up F w) (D.fs' fs) ∧ Kd F w w3) := ⟨hq3, hq4⟩
                     obtain ⟨y1, y2, y3, y4⟩ := hq3.dw true
                     have y5 := HV.out ▸ (set_cell (g := x) (j := 5) (u := Value.bool true) (hq4.cell HE.out.1 HE.out.2.1) (fun e => hxE e.symm))
                     clear hq3 hq4 y1 y4)
        go_ret
        rw [actA_t HB.out, HR.out]
        refine ⟨by rw [HV.out]; rfl, (HQ.out.1.dw true).1, HQ.out.2.trans (Kd.set HE.out.2.2)⟩
      | false =>
        rw [hn] at k4
        have HR : Hid (actD D fs = { D with dw := true }) := by show _ = _; unfold actD; rw [HB.out]; simp [hn]
        have y5 := HV.out ▸ (set_cell (g := x) (j := 5) (u := Value.bool true) HE.out.1 (fun e => hxE e.symm))
        clear HCl
        go_enter Tryz.func57, Tryz.ntmps57
        go_wp2
        go_ret
        rw [actA_t HB.out, HR.out]
        exact ⟨by rw [HV.out]; rfl, ((HD.out.dw true).1).mono (fun k h _ => .inl h), Kd.set HE.out.2.2⟩
    · have HB : Hid (actB D = false) := by show _ = _; unfold actB; rw [ha]; simp [h0]
      have hz : ¬ D.acts = 0 := h0
      have hzb : (D.acts == 0) = false := by simp [h0]
      have HR : Hid (actD D fs = { D with fs := fs, acts := D.acts - 1 }) := by show _ = _; unfold actD; rw [HB.out]; simp [ha]
      have hwa : IntKind.i64.wrap (D.acts - 1) = D.acts - 1 := by have := HK.out.acts; rw [IntKind.wrap_i64]; omega
      obtain ⟨W, hW⟩ : ∃ W, w.setCell ⟨x, 3, none⟩ (.int .i64 (D.acts - 1)) = W := ⟨_, rfl⟩
      have hK1 : Kd F w W := by rw [← hW]; exact Kd.set HE.out.2.2
      have hDW : Dm W x F { D with acts := D.acts - 1 } := by rw [← hW]; exact (HD.out.ac _).1
      have hc := HCl.out W { D with acts := D.acts - 1 } hDW rfl ⟨HK.out.fs, HK.out.len, HK.out.used, HK.out.room, by have := HK.out.acts; show 0 ≤ D.acts - 1 ∧ D.acts - 1 ≤ _; omega⟩ hK1
      have HK1 : Hid (Kd F w W ∧ W.heap.size = w.heap.size) := ⟨hK1, by rw [← hW]; simp [World.setCell]⟩
      clear HCl hK1 hDW
      go_enter Tryz.func57, Tryz.ntmps57
      go_wp2_with (go_at_call 60; refine hc.mono ?_; rintro e w3 ⟨⟨v3, rfl⟩, hq3, hq4⟩
                   have HQ : Hid (Dm w3 x (up F W) ({ D with acts := D.acts - 1 }.fs' fs) ∧ Kd F W w3) := ⟨hq3, hq4⟩
                   clear hq3 hq4)
      go_ret
      rw [actA_f HB.out, HR.out]
      refine ⟨rfl, HQ.out.1.mono (fun k h _ => h.imp id (fun e => by have := HK1.out.2; omega)), HK1.out.1.trans HQ.out.2⟩


set_option maxHeartbeats 4000000 in
set_option maxRecDepth 20000 in
theorem actRen (w : World) (x : Nat) (F : Nat → Prop) (D : Dk) (fs : List Fl) (B : Nat) (p q r : Value) (aD : Addr) (h : Dm w x F D) (hk : D.Ok B) (hE : w.cell? ⟨0, 0, none⟩ = some (errV aD)) (nE : ¬ F 0)
    (hcl : ∀ V D1, Dm V x F D1 → D1.fs = D.fs → D1.Ok B → Kd F w V → Calls Tryz.prog 84 #[p, q, r] V fun e w' => ClP x F D1 fs V e w') :
    Calls Tryz.prog 57 #[.pointer (some ⟨x, 0, none⟩), .func (.func 84) #[] #[p, q, r]] w fun e w' => e = .returned (actA D aD) ∧ Dm w' x (up F w) (actD D fs) ∧ Kd F w w' := by
  obtain ⟨k2, k4, _⟩ := h.c2
  obtain ⟨_, k3, z3, hfx⟩ := h.ac 0
  obtain ⟨_, k5, z5, _⟩ := h.dw true
  have hxE : x ≠ 0 := fun e => nE (e ▸ hfx)
  have HD : Hid (Dm w x F D) := h
  have HE : Hid (w.cell? ⟨0, 0, none⟩ = some (errV aD) ∧ (¬ F 0) ∧ F x) := ⟨hE, nE, hfx⟩
  obtain ⟨ev, hev⟩ : ∃ v, errV aD = v := ⟨_, rfl⟩
  have hev' : ∃ t p, ev = .iface t p := ⟨_, _, hev.symm⟩
  have HV : Hid (errV aD = ev) := hev
  rw [hev] at hE
  obtain ⟨tE, pE, rfl⟩ := hev'
  have HCl : Hid (∀ V D1, Dm V x F D1 → D1.fs = D.fs → D1.Ok B → Kd F w V → Calls Tryz.prog 84 #[p, q, r] V fun e w' => ClP x F D1 fs V e w') := hcl
  have HK : Hid (D.Ok B) := hk
  clear h hcl hk nE hev
  cases ha : D.arm with
  | false =>
    rw [ha] at k2
    have HR : Hid (actB D = false ∧ actD D fs = D.fs' fs) := by
      have h1 : actB D = false := by unfold actB; rw [ha]; rfl
      refine ⟨h1, ?_⟩
      unfold actD
      rw [h1]
      simp [Dk.fs', ha]
    have hc := HCl.out w D HD.out rfl HK.out (Kd.refl _ _)
    clear HCl
    go_enter Tryz.func57, Tryz.ntmps57
    go_wp2_with (go_at_call 84; refine hc.mono ?_; rintro e w3 ⟨⟨v3, rfl⟩, hq3, hq4⟩)
    go_ret
    rw [actA_f HR.out.1, HR.out.2]
    exact ⟨rfl, hq3, hq4⟩
  | true =>
    rw [ha] at k2
    by_cases h0 : D.acts = 0
    · have HB : Hid (actB D = true) := by show _ = _; unfold actB; rw [ha, h0]; rfl
      rw [h0] at k3
      cases hn : D.dn with
      | true =>
        rw [hn] at k4
        have HR : Hid (actD D fs = { D.fs' fs with dw := true }) := by show _ = _; unfold actD; rw [HB.out]; simp [Dk.fs', hn]
        have hc := HCl.out w D HD.out rfl HK.out (Kd.refl _ _)
        clear HCl
        go_enter Tryz.func57, Tryz.ntmps57
        go_wp2_with (go_at_call 84; refine hc.mono ?_; rintro e w3 ⟨⟨v3, rfl⟩, hq3, hq4⟩
                     have HQ : Hid (Dm w3 x (up F w) (D.fs' fs) ∧ Kd F w w3) := ⟨hq3, hq4⟩
                     obtain ⟨y1, y2, y3, y4⟩ := hq3.dw true
                     have y5 := HV.out ▸ (set_cell (g := x) (j := 5) (u := Value.bool true) (hq4.cell HE.out.1 HE.out.2.1) (fun e => hxE e.symm))
                     clear hq3 hq4 y1 y4)
        go_ret
        rw [actA_t HB.out, HR.out]
        refine ⟨by rw [HV.out]; rfl, (HQ.out.1.dw true).1, HQ.out.2.trans (Kd.set HE.out.2.2)⟩
      | false =>
        rw [hn] at k4
        have HR : Hid (actD D fs = { D with dw := true }) := by show _ = _; unfold actD; rw [HB.out]; simp [hn]
        have y5 := HV.out ▸ (set_cell (g := x) (j := 5) (u := Value.bool true) HE.out.1 (fun e => hxE e.symm))
        clear HCl
        go_enter Tryz.func57, Tryz.ntmps57
        go_wp2
        go_ret
        rw [actA_t HB.out, HR.out]
        exact ⟨by rw [HV.out]; rfl, ((HD.out.dw true).1).mono (fun k h _ => .inl h), Kd.set HE.out.2.2⟩
    · have HB : Hid (actB D = false) := by show _ = _; unfold actB; rw [ha]; simp [h0]
      have hz : ¬ D.acts = 0 := h0
      have hzb : (D.acts == 0) = false := by simp [h0]
      have HR : Hid (actD D fs = { D with fs := fs, acts := D.acts - 1 }) := by show _ = _; unfold actD; rw [HB.out]; simp [ha]
      have hwa : IntKind.i64.wrap (D.acts - 1) = D.acts - 1 := by have := HK.out.acts; rw [IntKind.wrap_i64]; omega
      obtain ⟨W, hW⟩ : ∃ W, w.setCell ⟨x, 3, none⟩ (.int .i64 (D.acts - 1)) = W := ⟨_, rfl⟩
      have hK1 : Kd F w W := by rw [← hW]; exact Kd.set HE.out.2.2
      have hDW : Dm W x F { D with acts := D.acts - 1 } := by rw [← hW]; exact (HD.out.ac _).1
      have hc := HCl.out W { D with acts := D.acts - 1 } hDW rfl ⟨HK.out.fs, HK.out.len, HK.out.used, HK.out.room, by have := HK.out.acts; show 0 ≤ D.acts - 1 ∧ D.acts - 1 ≤ _; omega⟩ hK1
      have HK1 : Hid (Kd F w W ∧ W.heap.size = w.heap.size) := ⟨hK1, by rw [← hW]; simp [World.setCell]⟩
      clear HCl hK1 hDW
      go_enter Tryz.func57, Tryz.ntmps57
      go_wp2_with (go_at_call 84; refine hc.mono ?_; rintro e w3 ⟨⟨v3, rfl⟩, hq3, hq4⟩
                   have HQ : Hid (Dm w3 x (up F W) ({ D with acts := D.acts - 1 }.fs' fs) ∧ Kd F W w3) := ⟨hq3, hq4⟩
                   clear hq3 hq4)
      go_ret
      rw [actA_f HB.out, HR.out]
      refine ⟨rfl, HQ.out.1.mono (fun k h _ => h.imp id (fun e => by have := HK1.out.2; omega)), HK1.out.1.trans HQ.out.2⟩


set_option maxHeartbeats 4000000 in
set_option maxRecDepth 20000 in
theorem actRem (w : World) (x : Nat) (F : Nat → Prop) (D : Dk) (fs : List Fl) (B : Nat) (p q : Value) (aD : Addr) (h : Dm w x F D) (hk : D.Ok B) (hE : w.cell? ⟨0, 0, none⟩ = some (errV aD)) (nE : ¬ F 0)
    (hcl : ∀ V D1, Dm V x F D1 → D1.fs = D.fs → D1.Ok B → Kd F w V → Calls Tryz.prog 101 #[p, q] V fun e w' => ClP x F D1 fs V e w') :
    Calls Tryz.prog 57 #[.pointer (some ⟨x, 0, none⟩), .func (.func 101) #[] #[p, q]] w fun e w' => e = .returned (actA D aD) ∧ Dm w' x (up F w) (actD D fs) ∧ Kd F w w' := by
  obtain ⟨k2, k4, _⟩ := h.c2
  obtain ⟨_, k3, z3, hfx⟩ := h.ac 0
  obtain ⟨_, k5, z5, _⟩ := h.dw true
  have hxE : x ≠ 0 := fun e => nE (e ▸ hfx)
  have HD : Hid (Dm w x F D) := h
  have HE : Hid (w.cell? ⟨0, 0, none⟩ = some (errV aD) ∧ (¬ F 0) ∧ F x) := ⟨hE, nE, hfx⟩
  obtain ⟨ev, hev⟩ : ∃ v, errV aD = v := ⟨_, rfl⟩
  have hev' : ∃ t p, ev = .iface t p := ⟨_, _, hev.symm⟩
  have HV : Hid (errV aD = ev) := hev
  rw [hev] at hE
  obtain ⟨tE, pE, rfl⟩ := hev'
  have HCl : Hid (∀ V D1, Dm V x F D1 → D1.fs = D.fs → D1.Ok B → Kd F w V → Calls Tryz.prog 101 #[p, q] V fun e w' => ClP x F D1 fs V e w') := hcl
  have HK : Hid (D.Ok B) := hk
  clear h hcl hk nE hev
  cases ha : D.arm with
  | false =>
    rw [ha] at k2
    have HR : Hid (actB D = false ∧ actD D fs = D.fs' fs) := by
      have h1 : actB D = false := by unfold actB; rw [ha]; rfl
      refine ⟨h1, ?_⟩
      unfold actD
      rw [h1]
      simp [Dk.fs', ha]
    have hc := HCl.out w D HD.out rfl HK.out (Kd.refl _ _)
    clear HCl
    go_enter Tryz.func57, Tryz.ntmps57
    go_wp2_with (go_at_call 101; refine hc.mono ?_; rintro e w3 ⟨⟨v3, rfl⟩, hq3, hq4⟩)
    go_ret
    rw [actA_f HR.out.1, HR.out.2]
    exact ⟨rfl, hq3, hq4⟩
  | true =>
    rw [ha] at k2
    by_cases h0 : D.acts = 0
    · have HB : Hid (actB D = true) := by show _ = _; unfold actB; rw [ha, h0]; rfl
      rw [h0] at k3
      cases hn : D.dn with
      | true =>
        rw [hn] at k4
        have HR : Hid (actD D fs = { D.fs' fs with dw := true }) := by show _ = _; unfold actD; rw [HB.out]; simp [Dk.fs', hn]
        have hc := HCl.out w D HD.out rfl HK.out (Kd.refl _ _)
        clear HCl
        go_enter Tryz.func57, Tryz.ntmps57
        go_wp2_with (go_at_call 101; refine hc.mono ?_; rintro e w3 ⟨⟨v3, rfl⟩, hq3, hq4⟩
                     have HQ : Hid (Dm w3 x (up F w) (D.fs' fs) ∧ Kd F w w3) := ⟨hq3, hq4⟩
                     obtain ⟨y1, y2, y3, y4⟩ := hq3.dw true
                     have y5 := HV.out ▸ (set_cell (g := x) (j := 5) (u := Value.bool true) (hq4.cell HE.out.1 HE.out.2.1) (fun e => hxE e.symm))
                     clear hq3 hq4 y1 y4)
        go_ret
        rw [actA_t HB.out, HR.out]
        refine ⟨by rw [HV.out]; rfl, (HQ.out.1.dw true).1, HQ.out.2.trans (Kd.set HE.out.2.2)⟩
      | false =>
        rw [hn] at k4
        have HR : Hid (actD D fs = { D with dw := true }) := by show _ = _; unfold actD; rw [HB.out]; simp [hn]
        have y5 := HV.out ▸ (set_cell (g := x) (j := 5) (u := Value.bool true) HE.out.1 (fun e => hxE e.symm))
        clear HCl
        go_enter Tryz.func57, Tryz.ntmps57
        go_wp2
        go_ret
        rw [actA_t HB.out, HR.out]
        exact ⟨by rw [HV.out]; rfl, ((HD.out.dw true).1).mono (fun k h _ => .inl h), Kd.set HE.out.2.2⟩
    · have HB : Hid (actB D = false) := by show _ = _; unfold actB; rw [ha]; simp [h0]
      have hz : ¬ D.acts = 0 := h0
      have hzb : (D.acts == 0) = false := by simp [h0]
      have HR : Hid (actD D fs = { D with fs := fs, acts := D.acts - 1 }) := by show _ = _; unfold actD; rw [HB.out]; simp [ha]
      have hwa : IntKind.i64.wrap (D.acts - 1) = D.acts - 1 := by have := HK.out.acts; rw [IntKind.wrap_i64]; omega
      obtain ⟨W, hW⟩ : ∃ W, w.setCell ⟨x, 3, none⟩ (.int .i64 (D.acts - 1)) = W := ⟨_, rfl⟩
      have hK1 : Kd F w W := by rw [← hW]; exact Kd.set HE.out.2.2
      have hDW : Dm W x F { D with acts := D.acts - 1 } := by rw [← hW]; exact (HD.out.ac _).1
      have hc := HCl.out W { D with acts := D.acts - 1 } hDW rfl ⟨HK.out.fs, HK.out.len, HK.out.used, HK.out.room, by have := HK.out.acts; show 0 ≤ D.acts - 1 ∧ D.acts - 1 ≤ _; omega⟩ hK1
      have HK1 : Hid (Kd F w W ∧ W.heap.size = w.heap.size) := ⟨hK1, by rw [← hW]; simp [World.setCell]⟩
      clear HCl hK1 hDW
      go_enter Tryz.func57, Tryz.ntmps57
      go_wp2_with (go_at_call 101; refine hc.mono ?_; rintro e w3 ⟨⟨v3, rfl⟩, hq3, hq4⟩
                   have HQ : Hid (Dm w3 x (up F W) ({ D with acts := D.acts - 1 }.fs' fs) ∧ Kd F W w3) := ⟨hq3, hq4⟩
                   clear hq3 hq4)
      go_ret
      rw [actA_f HB.out, HR.out]
      refine ⟨rfl, HQ.out.1.mono (fun k h _ => h.imp id (fun e => by have := HK1.out.2; omega)), HK1.out.1.trans HQ.out.2⟩


set_option maxHeartbeats 4000000 in
set_option maxRecDepth 20000 in
theorem actCut (w : World) (x : Nat) (F : Nat → Prop) (D : Dk) (fs : List Fl) (B : Nat) (p q r : Value) (aD : Addr) (h : Dm w x F D) (hk : D.Ok B) (hE : w.cell? ⟨0, 0, none⟩ = some (errV aD)) (nE : ¬ F 0)
    (hcl : ∀ V D1, Dm V x F D1 → D1.fs = D.fs → D1.Ok B → Kd F w V → Calls Tryz.prog 76 #[p, q, r] V fun e w' => ClP x F D1 fs V e w') :
    Calls Tryz.prog 57 #[.pointer (some ⟨x, 0, none⟩), .func (.func 76) #[] #[p, q, r]] w fun e w' => e = .returned (actA D aD) ∧ Dm w' x (up F w) (actD D fs) ∧ Kd F w w' := by
  obtain ⟨k2, k4, _⟩ := h.c2
  obtain ⟨_, k3, z3, hfx⟩ := h.ac 0
  obtain ⟨_, k5, z5, _⟩ := h.dw true
  have hxE : x ≠ 0 := fun e => nE (e ▸ hfx)
  have HD : Hid (Dm w x F D) := h
  have HE : Hid (w.cell? ⟨0, 0, none⟩ = some (errV aD) ∧ (¬ F 0) ∧ F x) := ⟨hE, nE, hfx⟩
  obtain ⟨ev, hev⟩ : ∃ v, errV aD = v := ⟨_, rfl⟩
  have hev' : ∃ t p, ev = .iface t p := ⟨_, _, hev.symm⟩
  have HV : Hid (errV aD = ev) := hev
  rw [hev] at hE
  obtain ⟨tE, pE, rfl⟩ := hev'
  have HCl : Hid (∀ V D1, Dm V x F D1 → D1.fs = D.fs → D1.Ok B → Kd F w V → Calls Tryz.prog 76 #[p, q, r] V fun e w' => ClP x F D1 fs V e w') := hcl
  have HK : Hid (D.Ok B) := hk
  clear h hcl hk nE hev
  cases ha : D.arm with
  | false =>
    rw [ha] at k2
    have HR : Hid (actB D = false ∧ actD D fs = D.fs' fs) := by
      have h1 : actB D = false := by unfold actB; rw [ha]; rfl
      refine ⟨h1, ?_⟩
      unfold actD
      rw [h1]
      simp [Dk.fs', ha]
    have hc := HCl.out w D HD.out rfl HK.out (Kd.refl _ _)
    clear HCl
    go_enter Tryz.func57, Tryz.ntmps57
    go_wp2_with (go_at_call 76; refine hc.mono ?_; rintro e w3 ⟨⟨v3, rfl⟩, hq3, hq4⟩)
    go_ret
    rw [actA_f HR.out.1, HR.out.2]
    exact ⟨rfl, hq3, hq4⟩
  | true =>
    rw [ha] at k2
    by_cases h0 : D.acts = 0
    · have HB : Hid (actB D = true) := by show _ = _; unfold actB; rw [ha, h0]; rfl
      rw [h0] at k3
      cases hn : D.dn with
      | true =>
        rw [hn] at k4
        have HR : Hid (actD D fs = { D.fs' fs with dw := true }) := by show _ = _; unfold actD; rw [HB.out]; simp [Dk.fs', hn]
        have hc := HCl.out w D HD.out rfl HK.out (Kd.refl _ _)
        clear HCl
        go_enter Tryz.func57, Tryz.ntmps57
        go_wp2_with (go_at_call 76; refine hc.mono ?_; rintro e w3 ⟨⟨v3, rfl⟩, hq3, hq4⟩
                     have HQ : Hid (Dm w3 x (up F w) (D.fs' fs) ∧ Kd F w w3) := ⟨hq3, hq4⟩
                     obtain ⟨y1, y2, y3, y4⟩ := hq3.dw true
                     have y5 := HV.out ▸ (set_cell (g := x) (j := 5) (u := Value.bool true) (hq4.cell HE.out.1 HE.out.2.1) (fun e => hxE e.symm))
                     clear hq3 hq4 y1 y4)
        go_ret
        rw [actA_t HB.out, HR.out]
        refine ⟨by rw [HV.out]; rfl, (HQ.out.1.dw true).1, HQ.out.2.trans (Kd.set HE.out.2.2)⟩
      | false =>
        rw [hn] at k4
        have HR : Hid (actD D fs = { D with dw := true }) := by show _ = _; unfold actD; rw [HB.out]; simp [hn]
        have y5 := HV.out ▸ (set_cell (g := x) (j := 5) (u := Value.bool true) HE.out.1 (fun e => hxE e.symm))
        clear HCl
        go_enter Tryz.func57, Tryz.ntmps57
        go_wp2
        go_ret
        rw [actA_t HB.out, HR.out]
        exact ⟨by rw [HV.out]; rfl, ((HD.out.dw true).1).mono (fun k h _ => .inl h), Kd.set HE.out.2.2⟩
    · have HB : Hid (actB D = false) := by show _ = _; unfold actB; rw [ha]; simp [h0]
      have hz : ¬ D.acts = 0 := h0
      have hzb : (D.acts == 0) = false := by simp [h0]
      have HR : Hid (actD D fs = { D with fs := fs, acts := D.acts - 1 }) := by show _ = _; unfold actD; rw [HB.out]; simp [ha]
      have hwa : IntKind.i64.wrap (D.acts - 1) = D.acts - 1 := by have := HK.out.acts; rw [IntKind.wrap_i64]; omega
      obtain ⟨W, hW⟩ : ∃ W, w.setCell ⟨x, 3, none⟩ (.int .i64 (D.acts - 1)) = W := ⟨_, rfl⟩
      have hK1 : Kd F w W := by rw [← hW]; exact Kd.set HE.out.2.2
      have hDW : Dm W x F { D with acts := D.acts - 1 } := by rw [← hW]; exact (HD.out.ac _).1
      have hc := HCl.out W { D with acts := D.acts - 1 } hDW rfl ⟨HK.out.fs, HK.out.len, HK.out.used, HK.out.room, by have := HK.out.acts; show 0 ≤ D.acts - 1 ∧ D.acts - 1 ≤ _; omega⟩ hK1
      have HK1 : Hid (Kd F w W ∧ W.heap.size = w.heap.size) := ⟨hK1, by rw [← hW]; simp [World.setCell]⟩
      clear HCl hK1 hDW
      go_enter Tryz.func57, Tryz.ntmps57
      go_wp2_with (go_at_call 76; refine hc.mono ?_; rintro e w3 ⟨⟨v3, rfl⟩, hq3, hq4⟩
                   have HQ : Hid (Dm w3 x (up F W) ({ D with acts := D.acts - 1 }.fs' fs) ∧ Kd F W w3) := ⟨hq3, hq4⟩
                   clear hq3 hq4)
      go_ret
      rw [actA_f HB.out, HR.out]
      refine ⟨rfl, HQ.out.1.mono (fun k h _ => h.imp id (fun e => by have := HK1.out.2; omega)), HK1.out.1.trans HQ.out.2⟩

end Go.Proofs.YtllhbhogfffedaaGreatDoor.K
