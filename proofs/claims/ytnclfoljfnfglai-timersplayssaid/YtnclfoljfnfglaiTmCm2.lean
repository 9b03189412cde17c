import Derived.Test.YtnclfoljfnfglaiTmCmp
namespace Go.Proofs.Ytnclfoljfnfglai
open Go.RowKit Go.Maps
set_option linter.unusedVariables false

/-- The two boxes and the row of fields, in whatever world. -/
structure CX (a b : Kx) (A B g : Nat) (V : World) : Prop where
  ba : V.heap[A]? = some (kO a)
  bb : V.heap[B]? = some (kO b)
  bg : V.heap[g]? = some ordO
theorem CX.keep {a b : Kx} {A B g : Nat} {V V' : World} (h : CX a b A B g V) (hk : Kq (fun _ => False) V V') : CX a b A B g V' :=
  ⟨(hk.block _ (Array.getElem?_eq_some_iff.1 h.ba).1 (fun e => e)).trans h.ba, (hk.block _ (Array.getElem?_eq_some_iff.1 h.bb).1 (fun e => e)).trans h.bb, (hk.block _ (Array.getElem?_eq_some_iff.1 h.bg).1 (fun e => e)).trans h.bg⟩
theorem CX.drew {a b : Kx} {A B g : Nat} {V : World} (h : CX a b A B g V) : CX a b A B g V.drew := ⟨h.ba, h.bb, h.bg⟩
theorem CX.alloc {a b : Kx} {A B g : Nat} {V : World} (h : CX a b A B g V) (o : Obj) : CX a b A B g (V.alloc o) := h.keep ((Kq.refl _ _).alloc o)

theorem CX.a0 {a b : Kx} {A B g : Nat} {V : World} (h : CX a b A B g V) : V.cell? ⟨A, 0, none⟩ = some (.int .i64 a.1) := by simp [World.cell?, h.ba]
theorem CX.b0 {a b : Kx} {A B g : Nat} {V : World} (h : CX a b A B g V) : V.cell? ⟨B, 0, none⟩ = some (.int .i64 b.1) := by simp [World.cell?, h.bb]
theorem CX.g0 {a b : Kx} {A B g : Nat} {V : World} (h : CX a b A B g V) : V.cell? ⟨g, 0, none⟩ = some (.func (.func 68) #[] #[]) := by simp [World.cell?, h.bg]
theorem CX.a1 {a b : Kx} {A B g : Nat} {V : World} (h : CX a b A B g V) : V.cell? ⟨A, 1, none⟩ = some (.int .i64 a.2.1) := by simp [World.cell?, h.ba]
theorem CX.b1 {a b : Kx} {A B g : Nat} {V : World} (h : CX a b A B g V) : V.cell? ⟨B, 1, none⟩ = some (.int .i64 b.2.1) := by simp [World.cell?, h.bb]
theorem CX.g1 {a b : Kx} {A B g : Nat} {V : World} (h : CX a b A B g V) : V.cell? ⟨g, 1, none⟩ = some (.func (.func 69) #[] #[]) := by simp [World.cell?, h.bg]
theorem CX.a2 {a b : Kx} {A B g : Nat} {V : World} (h : CX a b A B g V) : V.cell? ⟨A, 2, none⟩ = some (.int .i64 a.2.2.1) := by simp [World.cell?, h.ba]
theorem CX.b2 {a b : Kx} {A B g : Nat} {V : World} (h : CX a b A B g V) : V.cell? ⟨B, 2, none⟩ = some (.int .i64 b.2.2.1) := by simp [World.cell?, h.bb]
theorem CX.g2 {a b : Kx} {A B g : Nat} {V : World} (h : CX a b A B g V) : V.cell? ⟨g, 2, none⟩ = some (.func (.func 70) #[] #[]) := by simp [World.cell?, h.bg]
theorem CX.a3 {a b : Kx} {A B g : Nat} {V : World} (h : CX a b A B g V) : V.cell? ⟨A, 3, none⟩ = some (.int .i64 a.2.2.2.1) := by simp [World.cell?, h.ba]
theorem CX.b3 {a b : Kx} {A B g : Nat} {V : World} (h : CX a b A B g V) : V.cell? ⟨B, 3, none⟩ = some (.int .i64 b.2.2.2.1) := by simp [World.cell?, h.bb]
theorem CX.g3 {a b : Kx} {A B g : Nat} {V : World} (h : CX a b A B g V) : V.cell? ⟨g, 3, none⟩ = some (.func (.func 71) #[] #[]) := by simp [World.cell?, h.bg]
theorem CX.a4 {a b : Kx} {A B g : Nat} {V : World} (h : CX a b A B g V) : V.cell? ⟨A, 4, none⟩ = some (.int .i64 a.2.2.2.2) := by simp [World.cell?, h.ba]
theorem CX.b4 {a b : Kx} {A B g : Nat} {V : World} (h : CX a b A B g V) : V.cell? ⟨B, 4, none⟩ = some (.int .i64 b.2.2.2.2) := by simp [World.cell?, h.bb]
theorem CX.g4 {a b : Kx} {A B g : Nat} {V : World} (h : CX a b A B g V) : V.cell? ⟨g, 4, none⟩ = some (.func (.func 72) #[] #[]) := by simp [World.cell?, h.bg]

theorem CX.all {a b : Kx} {A B g : Nat} {V : World} (h : CX a b A B g V) : V.cell? ⟨A, 0, none⟩ = some (.int .i64 a.1) ∧ V.cell? ⟨A, 1, none⟩ = some (.int .i64 a.2.1) ∧ V.cell? ⟨A, 2, none⟩ = some (.int .i64 a.2.2.1) ∧ V.cell? ⟨A, 3, none⟩ = some (.int .i64 a.2.2.2.1) ∧ V.cell? ⟨A, 4, none⟩ = some (.int .i64 a.2.2.2.2) ∧ V.cell? ⟨B, 0, none⟩ = some (.int .i64 b.1) ∧ V.cell? ⟨B, 1, none⟩ = some (.int .i64 b.2.1) ∧ V.cell? ⟨B, 2, none⟩ = some (.int .i64 b.2.2.1) ∧ V.cell? ⟨B, 3, none⟩ = some (.int .i64 b.2.2.2.1) ∧ V.cell? ⟨B, 4, none⟩ = some (.int .i64 b.2.2.2.2) :=
  ⟨h.a0, h.a1, h.a2, h.a3, h.a4, h.b0, h.b1, h.b2, h.b3, h.b4⟩
def fldK (i : Nat) (k : Kx) : Int := match i with | 0 => k.1 | 1 => k.2.1 | 2 => k.2.2.1 | 3 => k.2.2.2.1 | _ => k.2.2.2.2
theorem cmpI_self (a : Int) : cmpI a a = 0 := by simp [cmpI]
theorem cmpI_ne {a b : Int} (h : a ≠ b) : cmpI a b ≠ 0 := by unfold cmpI; by_cases h1 : a < b <;> by_cases h2 : b < a <;> simp [h1, h2] <;> omega
theorem cmpK_at {a b : Kx} {k : Nat} (hk : k < 5) (h : ∀ j, j < k → fldK j a = fldK j b) (hn : fldK k a ≠ fldK k b) : cmpK a b = cmpI (fldK k a) (fldK k b) := by
  unfold cmpK
  obtain rfl | rfl | rfl | rfl | rfl : k = 0 ∨ k = 1 ∨ k = 2 ∨ k = 3 ∨ k = 4 := by omega
  · simp only [fldK] at hn ⊢; rw [if_pos hn]
  · have h0 := h 0 (by omega); simp only [fldK] at hn h0 ⊢; rw [if_neg (by simpa using h0), if_pos hn]
  · have h0 := h 0 (by omega); have h1 := h 1 (by omega); simp only [fldK] at hn h0 h1 ⊢; rw [if_neg (by simpa using h0), if_neg (by simpa using h1), if_pos hn]
  · have h0 := h 0 (by omega); have h1 := h 1 (by omega); have h2 := h 2 (by omega); simp only [fldK] at hn h0 h1 h2 ⊢; rw [if_neg (by simpa using h0), if_neg (by simpa using h1), if_neg (by simpa using h2), if_pos hn]
  · have h0 := h 0 (by omega); have h1 := h 1 (by omega); have h2 := h 2 (by omega); have h3 := h 3 (by omega); simp only [fldK] at hn h0 h1 h2 h3 ⊢; rw [if_neg (by simpa using h0), if_neg (by simpa using h1), if_neg (by simpa using h2), if_neg (by simpa using h3)]
theorem cmpK_all {a b : Kx} (h : ∀ j, j < 5 → fldK j a = fldK j b) : cmpK a b = 0 := by
  have h0 := h 0 (by omega); have h1 := h 1 (by omega); have h2 := h 2 (by omega); have h3 := h 3 (by omega); have h4 := h 4 (by omega)
  simp only [fldK] at h0 h1 h2 h3 h4
  unfold cmpK
  rw [if_neg (by simpa using h0), if_neg (by simpa using h1), if_neg (by simpa using h2), if_neg (by simpa using h3), h4, cmpI_self]

set_option maxHeartbeats 4000000 in
set_option maxRecDepth 100000 in
theorem compare_any (a b : Kx) (g : Nat) (w : World) (hg : w.heap[g]? = some ordO) :
    Calls Try.prog 74 #[.slice (some ⟨g, 0, none⟩) 5 5, kA a, kA b] w fun e w' => e = .returned (.int .i64 (cmpK a b)) ∧ Below w.heap.size w w' := by
  obtain ⟨W, hW⟩ : ∃ W, (w.alloc (kO a)).alloc (kO b) = W := ⟨_, rfl⟩
  have hgl : g < w.heap.size := (Array.getElem?_eq_some_iff.1 hg).1
  have X0 : Hid (CX a b w.heap.size (w.heap.size + 1) g W) := by
    rw [← hW]
    refine ⟨?_, ?_, ?_⟩
    · rw [(MapKept.heap_alloc _ _).2 _ (by simp)]; exact (MapKept.heap_alloc w _).1
    · have := (MapKept.heap_alloc (w.alloc (kO a)) (kO b)).1
      simpa using this
    · rw [(MapKept.heap_alloc _ _).2 _ (by simp; omega), (MapKept.heap_alloc _ _).2 _ hgl]; exact hg
  have B0 : Hid (Below w.heap.size w W) := by rw [← hW]; exact ((Below.refl _ _).alloc (Nat.le_refl _) _).alloc (by simp) _
  obtain ⟨Q, hQ⟩ : ∃ Q, cmpK a b = Q := ⟨_, rfl⟩
  have HQ : Hid (cmpK a b = Q) := hQ
  rw [hQ]
  clear hg hQ
  obtain ⟨ka, hka⟩ : ∃ k, k = a := ⟨_, rfl⟩
  obtain ⟨kb, hkb⟩ : ∃ k, k = b := ⟨_, rfl⟩
  rw [← hka, ← hkb] at HQ
  obtain ⟨a0, a1, a2, a3, a4⟩ := a
  obtain ⟨b0, b1, b2, b3, b4⟩ := b
  have HA : Hid (ka = (a0, a1, a2, a3, a4)) := hka
  have HB : Hid (kb = (b0, b1, b2, b3, b4)) := hkb
  clear hka hkb
  go_enter Try.func74, Try.ntmps74
  go_upto_region 1 with fail
  clear hW
  go_wp2_with fail
  go_loopw [12] (fun i wr => ∃ k : Nat, i = .int .i64 k ∧ k ≤ 5 ∧ (∀ j, j < k → fldK j ka = fldK j kb) ∧ CX (a0, a1, a2, a3, a4) (b0, b1, b2, b3, b4) w.heap.size (w.heap.size + 1) g wr ∧ Below w.heap.size w wr)
    (fun i _ => 5 - (intOf i).toNat)
  case atStart => exact ⟨0, rfl, by omega, fun j hj => by omega, X0.out, B0.out⟩
  case round =>
    obtain ⟨k, rfl, hk5, heq, hX, hB⟩ := hrel
    have HEq : Hid (∀ j, j < k → fldK j ka = fldK j kb) := heq
    have HX : Hid (CX (a0, a1, a2, a3, a4) (b0, b1, b2, b3, b4) w.heap.size (w.heap.size + 1) g wr) := hX
    have HBe : Hid (Below w.heap.size w wr) := hB
    clear heq hX hB X0 B0
    by_cases hk : k = 5
    · subst hk
      obtain rfl : Q = 0 := HQ.out.symm.trans (cmpK_all HEq.out)
      go_wp2
      go_ret
      exact ⟨rfl, HBe.out⟩
    · obtain rfl | rfl | rfl | rfl | rfl : k = 0 ∨ k = 1 ∨ k = 2 ∨ k = 3 ∨ k = 4 := by omega
      · have c0 := HX.out.g0
        have p0 : wr.cell? ⟨w.heap.size, 0, none⟩ = some (.int .i64 a0) := HX.out.a0
        have p1 : wr.cell? ⟨w.heap.size, 1, none⟩ = some (.int .i64 a1) := HX.out.a1
        have p2 : wr.cell? ⟨w.heap.size, 2, none⟩ = some (.int .i64 a2) := HX.out.a2
        have p3 : wr.cell? ⟨w.heap.size, 3, none⟩ = some (.int .i64 a3) := HX.out.a3
        have p4 : wr.cell? ⟨w.heap.size, 4, none⟩ = some (.int .i64 a4) := HX.out.a4
        have q0 : wr.cell? ⟨w.heap.size + 1, 0, none⟩ = some (.int .i64 b0) := HX.out.b0
        have q1 : wr.cell? ⟨w.heap.size + 1, 1, none⟩ = some (.int .i64 b1) := HX.out.b1
        have q2 : wr.cell? ⟨w.heap.size + 1, 2, none⟩ = some (.int .i64 b2) := HX.out.b2
        have q3 : wr.cell? ⟨w.heap.size + 1, 3, none⟩ = some (.int .i64 b3) := HX.out.b3
        have q4 : wr.cell? ⟨w.heap.size + 1, 4, none⟩ = some (.int .i64 b4) := HX.out.b4
        have X1 : Hid (CX (a0, a1, a2, a3, a4) (b0, b1, b2, b3, b4) w.heap.size (w.heap.size + 1) g (wr.alloc (kO (a0, a1, a2, a3, a4))).drew) := (HX.out.alloc _).drew
        have X2 : Hid (CX (a0, a1, a2, a3, a4) (b0, b1, b2, b3, b4) w.heap.size (w.heap.size + 1) g ((wr.alloc (kO (a0, a1, a2, a3, a4))).alloc (kO (b0, b1, b2, b3, b4))).drew) := ((HX.out.alloc _).alloc _).drew
        have B2 : Hid (Below w.heap.size w ((wr.alloc (kO (a0, a1, a2, a3, a4))).alloc (kO (b0, b1, b2, b3, b4))).drew) := by
          have := (HBe.out.alloc HBe.out.size (kO (a0, a1, a2, a3, a4))).alloc (Nat.le_trans HBe.out.size (by simp)) (kO (b0, b1, b2, b3, b4))
          exact ⟨this.os, this.tape, this.output, this.size, this.block⟩
        have H1 := fld0_any (a0, a1, a2, a3, a4) wr.drew
        have H2 := fld0_any (b0, b1, b2, b3, b4) (wr.alloc (kO (a0, a1, a2, a3, a4))).drew
        have H3 := cmpI_any a0 b0 ((wr.alloc (kO (a0, a1, a2, a3, a4))).alloc (kO (b0, b1, b2, b3, b4))).drew
        obtain ⟨c, hc⟩ : ∃ c, cmpI a0 b0 = c := ⟨_, rfl⟩
        have HC : Hid (cmpI a0 b0 = c) := hc
        rw [hc] at H3
        clear hc hk hk5
        go_wp2_with fail
        go_region_held3 (fun V => V.cell? ⟨w.heap.size, 0, none⟩ = some (.int .i64 a0) ∧ V.cell? ⟨w.heap.size, 1, none⟩ = some (.int .i64 a1) ∧ V.cell? ⟨w.heap.size, 2, none⟩ = some (.int .i64 a2) ∧ V.cell? ⟨w.heap.size, 3, none⟩ = some (.int .i64 a3) ∧ V.cell? ⟨w.heap.size, 4, none⟩ = some (.int .i64 a4) ∧ V.cell? ⟨w.heap.size + 1, 0, none⟩ = some (.int .i64 b0) ∧ V.cell? ⟨w.heap.size + 1, 1, none⟩ = some (.int .i64 b1) ∧ V.cell? ⟨w.heap.size + 1, 2, none⟩ = some (.int .i64 b2) ∧ V.cell? ⟨w.heap.size + 1, 3, none⟩ = some (.int .i64 b3) ∧ V.cell? ⟨w.heap.size + 1, 4, none⟩ = some (.int .i64 b4))
          (first | (exact HX.out.drew.all) | (exact X1.out.all) | (exact X2.out.all))
          (first | (go_at_call_of 68 (Value.int .i64 a0); refine H1.mono ?_; rintro e w2 ⟨rfl, rfl⟩) | (go_at_call_of 68 (Value.int .i64 b0); refine H2.mono ?_; rintro e w2 ⟨rfl, rfl⟩) | (go_at_call 78; refine H3.mono ?_; rintro e w2 ⟨rfl, rfl⟩))
        all_goals (
          clear H1 H2 H3
          by_cases he : a0 = b0
          · obtain rfl : c = 0 := by rw [← HC.out, he, cmpI_self]
            have HE : Hid (a0 = b0) := he
            clear he
            go_wp2
            go_roundw
            case rel => exact ⟨1, rfl, by omega, fun j hj => by
              by_cases hj2 : j < 0
              · exact HEq.out j hj2
              · obtain rfl : j = 0 := by omega
                rw [HA.out, HB.out]; exact HE.out, X2.out, B2.out⟩
            case measure => simp [intOf]
          · have hc0 : ¬ c = 0 := by rw [← HC.out]; exact cmpI_ne he
            obtain rfl : Q = c := by
              rw [← HQ.out, ← HC.out]
              have := cmpK_at (k := 0) (by omega) HEq.out (by rw [HA.out, HB.out]; exact he)
              rw [this, HA.out, HB.out]; rfl
            go_wp2
            go_ret
            exact ⟨rfl, B2.out⟩)
      · have c0 := HX.out.g1
        have p0 : wr.cell? ⟨w.heap.size, 0, none⟩ = some (.int .i64 a0) := HX.out.a0
        have p1 : wr.cell? ⟨w.heap.size, 1, none⟩ = some (.int .i64 a1) := HX.out.a1
        have p2 : wr.cell? ⟨w.heap.size, 2, none⟩ = some (.int .i64 a2) := HX.out.a2
        have p3 : wr.cell? ⟨w.heap.size, 3, none⟩ = some (.int .i64 a3) := HX.out.a3
        have p4 : wr.cell? ⟨w.heap.size, 4, none⟩ = some (.int .i64 a4) := HX.out.a4
        have q0 : wr.cell? ⟨w.heap.size + 1, 0, none⟩ = some (.int .i64 b0) := HX.out.b0
        have q1 : wr.cell? ⟨w.heap.size + 1, 1, none⟩ = some (.int .i64 b1) := HX.out.b1
        have q2 : wr.cell? ⟨w.heap.size + 1, 2, none⟩ = some (.int .i64 b2) := HX.out.b2
        have q3 : wr.cell? ⟨w.heap.size + 1, 3, none⟩ = some (.int .i64 b3) := HX.out.b3
        have q4 : wr.cell? ⟨w.heap.size + 1, 4, none⟩ = some (.int .i64 b4) := HX.out.b4
        have X1 : Hid (CX (a0, a1, a2, a3, a4) (b0, b1, b2, b3, b4) w.heap.size (w.heap.size + 1) g (wr.alloc (kO (a0, a1, a2, a3, a4))).drew) := (HX.out.alloc _).drew
        have X2 : Hid (CX (a0, a1, a2, a3, a4) (b0, b1, b2, b3, b4) w.heap.size (w.heap.size + 1) g ((wr.alloc (kO (a0, a1, a2, a3, a4))).alloc (kO (b0, b1, b2, b3, b4))).drew) := ((HX.out.alloc _).alloc _).drew
        have B2 : Hid (Below w.heap.size w ((wr.alloc (kO (a0, a1, a2, a3, a4))).alloc (kO (b0, b1, b2, b3, b4))).drew) := by
          have := (HBe.out.alloc HBe.out.size (kO (a0, a1, a2, a3, a4))).alloc (Nat.le_trans HBe.out.size (by simp)) (kO (b0, b1, b2, b3, b4))
          exact ⟨this.os, this.tape, this.output, this.size, this.block⟩
        have H1 := fld1_any (a0, a1, a2, a3, a4) wr.drew
        have H2 := fld1_any (b0, b1, b2, b3, b4) (wr.alloc (kO (a0, a1, a2, a3, a4))).drew
        have H3 := cmpI_any a1 b1 ((wr.alloc (kO (a0, a1, a2, a3, a4))).alloc (kO (b0, b1, b2, b3, b4))).drew
        obtain ⟨c, hc⟩ : ∃ c, cmpI a1 b1 = c := ⟨_, rfl⟩
        have HC : Hid (cmpI a1 b1 = c) := hc
        rw [hc] at H3
        clear hc hk hk5
        go_wp2_with fail
        go_region_held3 (fun V => V.cell? ⟨w.heap.size, 0, none⟩ = some (.int .i64 a0) ∧ V.cell? ⟨w.heap.size, 1, none⟩ = some (.int .i64 a1) ∧ V.cell? ⟨w.heap.size, 2, none⟩ = some (.int .i64 a2) ∧ V.cell? ⟨w.heap.size, 3, none⟩ = some (.int .i64 a3) ∧ V.cell? ⟨w.heap.size, 4, none⟩ = some (.int .i64 a4) ∧ V.cell? ⟨w.heap.size + 1, 0, none⟩ = some (.int .i64 b0) ∧ V.cell? ⟨w.heap.size + 1, 1, none⟩ = some (.int .i64 b1) ∧ V.cell? ⟨w.heap.size + 1, 2, none⟩ = some (.int .i64 b2) ∧ V.cell? ⟨w.heap.size + 1, 3, none⟩ = some (.int .i64 b3) ∧ V.cell? ⟨w.heap.size + 1, 4, none⟩ = some (.int .i64 b4))
          (first | (exact HX.out.drew.all) | (exact X1.out.all) | (exact X2.out.all))
          (first | (go_at_call_of 69 (Value.int .i64 a0); refine H1.mono ?_; rintro e w2 ⟨rfl, rfl⟩) | (go_at_call_of 69 (Value.int .i64 b0); refine H2.mono ?_; rintro e w2 ⟨rfl, rfl⟩) | (go_at_call 78; refine H3.mono ?_; rintro e w2 ⟨rfl, rfl⟩))
        all_goals (
          clear H1 H2 H3
          by_cases he : a1 = b1
          · obtain rfl : c = 0 := by rw [← HC.out, he, cmpI_self]
            have HE : Hid (a1 = b1) := he
            clear he
            go_wp2
            go_roundw
            case rel => exact ⟨2, rfl, by omega, fun j hj => by
              by_cases hj2 : j < 1
              · exact HEq.out j hj2
              · obtain rfl : j = 1 := by omega
                rw [HA.out, HB.out]; exact HE.out, X2.out, B2.out⟩
            case measure => simp [intOf]
          · have hc0 : ¬ c = 0 := by rw [← HC.out]; exact cmpI_ne he
            obtain rfl : Q = c := by
              rw [← HQ.out, ← HC.out]
              have := cmpK_at (k := 1) (by omega) HEq.out (by rw [HA.out, HB.out]; exact he)
              rw [this, HA.out, HB.out]; rfl
            go_wp2
            go_ret
            exact ⟨rfl, B2.out⟩)
      · have c0 := HX.out.g2
        have p0 : wr.cell? ⟨w.heap.size, 0, none⟩ = some (.int .i64 a0) := HX.out.a0
        have p1 : wr.cell? ⟨w.heap.size, 1, none⟩ = some (.int .i64 a1) := HX.out.a1
        have p2 : wr.cell? ⟨w.heap.size, 2, none⟩ = some (.int .i64 a2) := HX.out.a2
        have p3 : wr.cell? ⟨w.heap.size, 3, none⟩ = some (.int .i64 a3) := HX.out.a3
        have p4 : wr.cell? ⟨w.heap.size, 4, none⟩ = some (.int .i64 a4) := HX.out.a4
        have q0 : wr.cell? ⟨w.heap.size + 1, 0, none⟩ = some (.int .i64 b0) := HX.out.b0
        have q1 : wr.cell? ⟨w.heap.size + 1, 1, none⟩ = some (.int .i64 b1) := HX.out.b1
        have q2 : wr.cell? ⟨w.heap.size + 1, 2, none⟩ = some (.int .i64 b2) := HX.out.b2
        have q3 : wr.cell? ⟨w.heap.size + 1, 3, none⟩ = some (.int .i64 b3) := HX.out.b3
        have q4 : wr.cell? ⟨w.heap.size + 1, 4, none⟩ = some (.int .i64 b4) := HX.out.b4
        have X1 : Hid (CX (a0, a1, a2, a3, a4) (b0, b1, b2, b3, b4) w.heap.size (w.heap.size + 1) g (wr.alloc (kO (a0, a1, a2, a3, a4))).drew) := (HX.out.alloc _).drew
        have X2 : Hid (CX (a0, a1, a2, a3, a4) (b0, b1, b2, b3, b4) w.heap.size (w.heap.size + 1) g ((wr.alloc (kO (a0, a1, a2, a3, a4))).alloc (kO (b0, b1, b2, b3, b4))).drew) := ((HX.out.alloc _).alloc _).drew
        have B2 : Hid (Below w.heap.size w ((wr.alloc (kO (a0, a1, a2, a3, a4))).alloc (kO (b0, b1, b2, b3, b4))).drew) := by
          have := (HBe.out.alloc HBe.out.size (kO (a0, a1, a2, a3, a4))).alloc (Nat.le_trans HBe.out.size (by simp)) (kO (b0, b1, b2, b3, b4))
          exact ⟨this.os, this.tape, this.output, this.size, this.block⟩
        have H1 := fld2_any (a0, a1, a2, a3, a4) wr.drew
        have H2 := fld2_any (b0, b1, b2, b3, b4) (wr.alloc (kO (a0, a1, a2, a3, a4))).drew
        have H3 := cmpI_any a2 b2 ((wr.alloc (kO (a0, a1, a2, a3, a4))).alloc (kO (b0, b1, b2, b3, b4))).drew
        obtain ⟨c, hc⟩ : ∃ c, cmpI a2 b2 = c := ⟨_, rfl⟩
        have HC : Hid (cmpI a2 b2 = c) := hc
        rw [hc] at H3
        clear hc hk hk5
        go_wp2_with fail
        go_region_held3 (fun V => V.cell? ⟨w.heap.size, 0, none⟩ = some (.int .i64 a0) ∧ V.cell? ⟨w.heap.size, 1, none⟩ = some (.int .i64 a1) ∧ V.cell? ⟨w.heap.size, 2, none⟩ = some (.int .i64 a2) ∧ V.cell? ⟨w.heap.size, 3, none⟩ = some (.int .i64 a3) ∧ V.cell? ⟨w.heap.size, 4, none⟩ = some (.int .i64 a4) ∧ V.cell? ⟨w.heap.size + 1, 0, none⟩ = some (.int .i64 b0) ∧ V.cell? ⟨w.heap.size + 1, 1, none⟩ = some (.int .i64 b1) ∧ V.cell? ⟨w.heap.size + 1, 2, none⟩ = some (.int .i64 b2) ∧ V.cell? ⟨w.heap.size + 1, 3, none⟩ = some (.int .i64 b3) ∧ V.cell? ⟨w.heap.size + 1, 4, none⟩ = some (.int .i64 b4))
          (first | (exact HX.out.drew.all) | (exact X1.out.all) | (exact X2.out.all))
          (first | (go_at_call_of 70 (Value.int .i64 a0); refine H1.mono ?_; rintro e w2 ⟨rfl, rfl⟩) | (go_at_call_of 70 (Value.int .i64 b0); refine H2.mono ?_; rintro e w2 ⟨rfl, rfl⟩) | (go_at_call 78; refine H3.mono ?_; rintro e w2 ⟨rfl, rfl⟩))
        all_goals (
          clear H1 H2 H3
          by_cases he : a2 = b2
          · obtain rfl : c = 0 := by rw [← HC.out, he, cmpI_self]
            have HE : Hid (a2 = b2) := he
            clear he
            go_wp2
            go_roundw
            case rel => exact ⟨3, rfl, by omega, fun j hj => by
              by_cases hj2 : j < 2
              · exact HEq.out j hj2
              · obtain rfl : j = 2 := by omega
                rw [HA.out, HB.out]; exact HE.out, X2.out, B2.out⟩
            case measure => simp [intOf]
          · have hc0 : ¬ c = 0 := by rw [← HC.out]; exact cmpI_ne he
            obtain rfl : Q = c := by
              rw [← HQ.out, ← HC.out]
              have := cmpK_at (k := 2) (by omega) HEq.out (by rw [HA.out, HB.out]; exact he)
              rw [this, HA.out, HB.out]; rfl
            go_wp2
            go_ret
            exact ⟨rfl, B2.out⟩)
      · have c0 := HX.out.g3
        have p0 : wr.cell? ⟨w.heap.size, 0, none⟩ = some (.int .i64 a0) := HX.out.a0
        have p1 : wr.cell? ⟨w.heap.size, 1, none⟩ = some (.int .i64 a1) := HX.out.a1
        have p2 : wr.cell? ⟨w.heap.size, 2, none⟩ = some (.int .i64 a2) := HX.out.a2
        have p3 : wr.cell? ⟨w.heap.size, 3, none⟩ = some (.int .i64 a3) := HX.out.a3
        have p4 : wr.cell? ⟨w.heap.size, 4, none⟩ = some (.int .i64 a4) := HX.out.a4
        have q0 : wr.cell? ⟨w.heap.size + 1, 0, none⟩ = some (.int .i64 b0) := HX.out.b0
        have q1 : wr.cell? ⟨w.heap.size + 1, 1, none⟩ = some (.int .i64 b1) := HX.out.b1
        have q2 : wr.cell? ⟨w.heap.size + 1, 2, none⟩ = some (.int .i64 b2) := HX.out.b2
        have q3 : wr.cell? ⟨w.heap.size + 1, 3, none⟩ = some (.int .i64 b3) := HX.out.b3
        have q4 : wr.cell? ⟨w.heap.size + 1, 4, none⟩ = some (.int .i64 b4) := HX.out.b4
        have X1 : Hid (CX (a0, a1, a2, a3, a4) (b0, b1, b2, b3, b4) w.heap.size (w.heap.size + 1) g (wr.alloc (kO (a0, a1, a2, a3, a4))).drew) := (HX.out.alloc _).drew
        have X2 : Hid (CX (a0, a1, a2, a3, a4) (b0, b1, b2, b3, b4) w.heap.size (w.heap.size + 1) g ((wr.alloc (kO (a0, a1, a2, a3, a4))).alloc (kO (b0, b1, b2, b3, b4))).drew) := ((HX.out.alloc _).alloc _).drew
        have B2 : Hid (Below w.heap.size w ((wr.alloc (kO (a0, a1, a2, a3, a4))).alloc (kO (b0, b1, b2, b3, b4))).drew) := by
          have := (HBe.out.alloc HBe.out.size (kO (a0, a1, a2, a3, a4))).alloc (Nat.le_trans HBe.out.size (by simp)) (kO (b0, b1, b2, b3, b4))
          exact ⟨this.os, this.tape, this.output, this.size, this.block⟩
        have H1 := fld3_any (a0, a1, a2, a3, a4) wr.drew
        have H2 := fld3_any (b0, b1, b2, b3, b4) (wr.alloc (kO (a0, a1, a2, a3, a4))).drew
        have H3 := cmpI_any a3 b3 ((wr.alloc (kO (a0, a1, a2, a3, a4))).alloc (kO (b0, b1, b2, b3, b4))).drew
        obtain ⟨c, hc⟩ : ∃ c, cmpI a3 b3 = c := ⟨_, rfl⟩
        have HC : Hid (cmpI a3 b3 = c) := hc
        rw [hc] at H3
        clear hc hk hk5
        go_wp2_with fail
        go_region_held3 (fun V => V.cell? ⟨w.heap.size, 0, none⟩ = some (.int .i64 a0) ∧ V.cell? ⟨w.heap.size, 1, none⟩ = some (.int .i64 a1) ∧ V.cell? ⟨w.heap.size, 2, none⟩ = some (.int .i64 a2) ∧ V.cell? ⟨w.heap.size, 3, none⟩ = some (.int .i64 a3) ∧ V.cell? ⟨w.heap.size, 4, none⟩ = some (.int .i64 a4) ∧ V.cell? ⟨w.heap.size + 1, 0, none⟩ = some (.int .i64 b0) ∧ V.cell? ⟨w.heap.size + 1, 1, none⟩ = some (.int .i64 b1) ∧ V.cell? ⟨w.heap.size + 1, 2, none⟩ = some (.int .i64 b2) ∧ V.cell? ⟨w.heap.size + 1, 3, none⟩ = some (.int .i64 b3) ∧ V.cell? ⟨w.heap.size + 1, 4, none⟩ = some (.int .i64 b4))
          (first | (exact HX.out.drew.all) | (exact X1.out.all) | (exact X2.out.all))
          (first | (go_at_call_of 71 (Value.int .i64 a0); refine H1.mono ?_; rintro e w2 ⟨rfl, rfl⟩) | (go_at_call_of 71 (Value.int .i64 b0); refine H2.mono ?_; rintro e w2 ⟨rfl, rfl⟩) | (go_at_call 78; refine H3.mono ?_; rintro e w2 ⟨rfl, rfl⟩))
        all_goals (
          clear H1 H2 H3
          by_cases he : a3 = b3
          · obtain rfl : c = 0 := by rw [← HC.out, he, cmpI_self]
            have HE : Hid (a3 = b3) := he
            clear he
            go_wp2
            go_roundw
            case rel => exact ⟨4, rfl, by omega, fun j hj => by
              by_cases hj2 : j < 3
              · exact HEq.out j hj2
              · obtain rfl : j = 3 := by omega
                rw [HA.out, HB.out]; exact HE.out, X2.out, B2.out⟩
            case measure => simp [intOf]
          · have hc0 : ¬ c = 0 := by rw [← HC.out]; exact cmpI_ne he
            obtain rfl : Q = c := by
              rw [← HQ.out, ← HC.out]
              have := cmpK_at (k := 3) (by omega) HEq.out (by rw [HA.out, HB.out]; exact he)
              rw [this, HA.out, HB.out]; rfl
            go_wp2
            go_ret
            exact ⟨rfl, B2.out⟩)
      · have c0 := HX.out.g4
        have p0 : wr.cell? ⟨w.heap.size, 0, none⟩ = some (.int .i64 a0) := HX.out.a0
        have p1 : wr.cell? ⟨w.heap.size, 1, none⟩ = some (.int .i64 a1) := HX.out.a1
        have p2 : wr.cell? ⟨w.heap.size, 2, none⟩ = some (.int .i64 a2) := HX.out.a2
        have p3 : wr.cell? ⟨w.heap.size, 3, none⟩ = some (.int .i64 a3) := HX.out.a3
        have p4 : wr.cell? ⟨w.heap.size, 4, none⟩ = some (.int .i64 a4) := HX.out.a4
        have q0 : wr.cell? ⟨w.heap.size + 1, 0, none⟩ = some (.int .i64 b0) := HX.out.b0
        have q1 : wr.cell? ⟨w.heap.size + 1, 1, none⟩ = some (.int .i64 b1) := HX.out.b1
        have q2 : wr.cell? ⟨w.heap.size + 1, 2, none⟩ = some (.int .i64 b2) := HX.out.b2
        have q3 : wr.cell? ⟨w.heap.size + 1, 3, none⟩ = some (.int .i64 b3) := HX.out.b3
        have q4 : wr.cell? ⟨w.heap.size + 1, 4, none⟩ = some (.int .i64 b4) := HX.out.b4
        have X1 : Hid (CX (a0, a1, a2, a3, a4) (b0, b1, b2, b3, b4) w.heap.size (w.heap.size + 1) g (wr.alloc (kO (a0, a1, a2, a3, a4))).drew) := (HX.out.alloc _).drew
        have X2 : Hid (CX (a0, a1, a2, a3, a4) (b0, b1, b2, b3, b4) w.heap.size (w.heap.size + 1) g ((wr.alloc (kO (a0, a1, a2, a3, a4))).alloc (kO (b0, b1, b2, b3, b4))).drew) := ((HX.out.alloc _).alloc _).drew
        have B2 : Hid (Below w.heap.size w ((wr.alloc (kO (a0, a1, a2, a3, a4))).alloc (kO (b0, b1, b2, b3, b4))).drew) := by
          have := (HBe.out.alloc HBe.out.size (kO (a0, a1, a2, a3, a4))).alloc (Nat.le_trans HBe.out.size (by simp)) (kO (b0, b1, b2, b3, b4))
          exact ⟨this.os, this.tape, this.output, this.size, this.block⟩
        have H1 := fld4_any (a0, a1, a2, a3, a4) wr.drew
        have H2 := fld4_any (b0, b1, b2, b3, b4) (wr.alloc (kO (a0, a1, a2, a3, a4))).drew
        have H3 := cmpI_any a4 b4 ((wr.alloc (kO (a0, a1, a2, a3, a4))).alloc (kO (b0, b1, b2, b3, b4))).drew
        obtain ⟨c, hc⟩ : ∃ c, cmpI a4 b4 = c := ⟨_, rfl⟩
        have HC : Hid (cmpI a4 b4 = c) := hc
        rw [hc] at H3
        clear hc hk hk5
        go_wp2_with fail
        go_region_held3 (fun V => V.cell? ⟨w.heap.size, 0, none⟩ = some (.int .i64 a0) ∧ V.cell? ⟨w.heap.size, 1, none⟩ = some (.int .i64 a1) ∧ V.cell? ⟨w.heap.size, 2, none⟩ = some (.int .i64 a2) ∧ V.cell? ⟨w.heap.size, 3, none⟩ = some (.int .i64 a3) ∧ V.cell? ⟨w.heap.size, 4, none⟩ = some (.int .i64 a4) ∧ V.cell? ⟨w.heap.size + 1, 0, none⟩ = some (.int .i64 b0) ∧ V.cell? ⟨w.heap.size + 1, 1, none⟩ = some (.int .i64 b1) ∧ V.cell? ⟨w.heap.size + 1, 2, none⟩ = some (.int .i64 b2) ∧ V.cell? ⟨w.heap.size + 1, 3, none⟩ = some (.int .i64 b3) ∧ V.cell? ⟨w.heap.size + 1, 4, none⟩ = some (.int .i64 b4))
          (first | (exact HX.out.drew.all) | (exact X1.out.all) | (exact X2.out.all))
          (first | (go_at_call_of 72 (Value.int .i64 a0); refine H1.mono ?_; rintro e w2 ⟨rfl, rfl⟩) | (go_at_call_of 72 (Value.int .i64 b0); refine H2.mono ?_; rintro e w2 ⟨rfl, rfl⟩) | (go_at_call 78; refine H3.mono ?_; rintro e w2 ⟨rfl, rfl⟩))
        all_goals (
          clear H1 H2 H3
          by_cases he : a4 = b4
          · obtain rfl : c = 0 := by rw [← HC.out, he, cmpI_self]
            have HE : Hid (a4 = b4) := he
            clear he
            go_wp2
            go_roundw
            case rel => exact ⟨5, rfl, by omega, fun j hj => by
              by_cases hj2 : j < 4
              · exact HEq.out j hj2
              · obtain rfl : j = 4 := by omega
                rw [HA.out, HB.out]; exact HE.out, X2.out, B2.out⟩
            case measure => simp [intOf]
          · have hc0 : ¬ c = 0 := by rw [← HC.out]; exact cmpI_ne he
            obtain rfl : Q = c := by
              rw [← HQ.out, ← HC.out]
              have := cmpK_at (k := 4) (by omega) HEq.out (by rw [HA.out, HB.out]; exact he)
              rw [this, HA.out, HB.out]; rfl
            go_wp2
            go_ret
            exact ⟨rfl, B2.out⟩)

end Go.Proofs.Ytnclfoljfnfglai
