import Derived.Test.YtcfodcioeefbeaaDoorBkAgM
import Derived.Deep.CutRange
import Derived.Deep.RegionHeld3
namespace Go.Proofs.YtcfodcioeefbeaaDoor
open Go.RowKit

/-- May a parcel have such a piece? -/
def sil (c r : Int) : Bool := decide (c = 0 ∧ r = 0)
def PieceP (k : Pk) (x : Pc) : Prop := 0 ≤ x.frm ∧ x.frm < x.to ∧
  ((x.typ = 0 ∧ x.to < k.red ∧ sil x.chk x.rep = true) ∨ (x.typ = 1 ∧ x.to < k.red ∧ asB x.chk x.rep = true) ∨ ((x.typ = 2 ∨ x.typ = 3) ∧ x.to = k.red ∧ x.typ = endT k ∧ asB x.chk x.rep = true) ∨
   (x.typ = 4 ∧ k.red ≤ x.frm ∧ x.to < k.size ∧ sil x.chk x.rep = true) ∨ (x.typ = 7 ∧ k.red ≤ x.frm ∧ x.to = k.size ∧ sil x.chk x.rep = true))
def pieceB (k : Pk) (x : Pc) : Bool := decide (0 ≤ x.frm ∧ x.frm < x.to ∧
  ((x.typ = 0 ∧ x.to < k.red ∧ sil x.chk x.rep = true) ∨ (x.typ = 1 ∧ x.to < k.red ∧ asB x.chk x.rep = true) ∨ ((x.typ = 2 ∨ x.typ = 3) ∧ x.to = k.red ∧ x.typ = endT k ∧ asB x.chk x.rep = true) ∨
   (x.typ = 4 ∧ k.red ≤ x.frm ∧ x.to < k.size ∧ sil x.chk x.rep = true) ∨ (x.typ = 7 ∧ k.red ≤ x.frm ∧ x.to = k.size ∧ sil x.chk x.rep = true)))
theorem pieceB_iff (k : Pk) (x : Pc) : pieceB k x = true ↔ PieceP k x := by unfold pieceB PieceP; exact decide_eq_true_iff

abbrev pclC (k : Pk) : Array Value := #[.int .i64 k.srv, .int .i64 k.size, .int .i64 k.red, .int .i64 k.mtu, .int .i64 k.every]

set_option maxHeartbeats 1000000 in
theorem endType_al (k : Pk) (w : World) :
    Calls Tryd.prog 31 #[.agg (pclC k)] w fun e w' => e = .returned (.int .i64 (endT k)) ∧ w' = w.alloc (.cells (pclC k) 25) := by
  unfold endT
  go_enter Tryd.func31, Tryd.ntmps31
  by_cases h : k.red < k.size
  · rw [if_pos h]
    go_wp2
    go_ret
    exact ⟨rfl, rfl⟩
  · rw [if_neg h]
    go_wp2
    go_ret
    exact ⟨rfl, rfl⟩

/-- What lies there while a piece is held against its parcel. -/
structure PX (k : Pk) (x : Pc) (w V : World) : Prop where
  pcl : V.heap[w.heap.size]? = some (.cells (pclC k) 25)
  pc : V.heap[w.heap.size + 1]? = some (.cells (pcC x) 56)
  bel : Below w.heap.size w V
theorem PX.below {k : Pk} {x : Pc} {w V V' : World} (h : PX k x w V) (hb : Below V.heap.size V V') : PX k x w V' :=
  ⟨(hb.block _ (Array.getElem?_eq_some_iff.mp h.pcl).1).trans h.pcl, (hb.block _ (Array.getElem?_eq_some_iff.mp h.pc).1).trans h.pc, h.bel.trans (hb.mono h.bel.size)⟩
theorem PX.drew {k : Pk} {x : Pc} {w V : World} (h : PX k x w V) : PX k x w V.drew := h.below ((Below.refl _ _).drew)
theorem PX.all {k : Pk} {x : Pc} {w V : World} (h : PX k x w V) : V.cell? ⟨w.heap.size, 0, none⟩ = some (.int .i64 k.srv) ∧ V.cell? ⟨w.heap.size, 1, none⟩ = some (.int .i64 k.size) ∧ V.cell? ⟨w.heap.size, 2, none⟩ = some (.int .i64 k.red) ∧ V.cell? ⟨w.heap.size, 3, none⟩ = some (.int .i64 k.mtu) ∧ V.cell? ⟨w.heap.size, 4, none⟩ = some (.int .i64 k.every) ∧
    V.cell? ⟨w.heap.size + 1, 0, none⟩ = some (.int .i64 x.typ) ∧ V.cell? ⟨w.heap.size + 1, 1, none⟩ = some (.int .i64 x.frm) ∧ V.cell? ⟨w.heap.size + 1, 2, none⟩ = some (.int .i64 x.to) ∧ V.cell? ⟨w.heap.size + 1, 3, none⟩ = some (.int .i64 x.chk) ∧ V.cell? ⟨w.heap.size + 1, 4, none⟩ = some (.int .i64 x.rep) ∧ PX k x w V := by
  obtain ⟨a0, a1, a2, a3, a4, _⟩ := box5 h.pcl
  obtain ⟨b0, b1, b2, b3, b4, _⟩ := box5 h.pc
  exact ⟨a0, a1, a2, a3, a4, b0, b1, b2, b3, b4, h⟩

set_option maxRecDepth 100000 in
set_option maxHeartbeats 8000000 in
theorem isPiece_any (k : Pk) (x : Pc) (w : World) :
    Calls Tryd.prog 28 #[.agg (pclC k), .agg (pcC x)] w fun e w' => e = .returned (.bool (pieceB k x)) ∧ Below w.heap.size w w' := by
  have HB : Hid (Below w.heap.size w ((w.alloc (.cells (pclC k) 25)).alloc (.cells (pcC x) 56))) := ((Below.refl _ _).alloc (Nat.le_refl _) _).alloc (by simp) _
  have HF : Hid (∀ b : Bool, (PieceP k x ↔ b = true) → pieceB k x = b) := fun b h => by
    rw [← pieceB_iff] at h
    cases b
    · exact Bool.eq_false_iff.mpr (fun g => by have := h.mp g; cases this)
    · exact h.mpr rfl
  generalize pieceB k x = q at *
  have HAS := fun W => asks_any x.chk x.rep W
  have HE := fun W => endType_al k W
  go_enter Tryd.func28, Tryd.ntmps28
  by_cases h1 : x.frm < 0
  · clear HAS HE
    go_wp2
    go_ret
    exact ⟨by rw [HF.out false (by unfold PieceP; simp; omega)]; rfl, HB.out⟩
  by_cases h2 : x.to ≤ x.frm
  · clear HAS HE
    go_wp2
    go_ret
    exact ⟨by rw [HF.out false (by unfold PieceP; simp; omega)]; rfl, HB.out⟩
  go_upto_region 3 with fail
  go_cut [5] from 16 to 23 (fun c wx => c = .bool (sil x.chk x.rep) ∧ wx = (w.alloc (.cells (pclC k) 25)).alloc (.cells (pcC x) 56))
  case first =>
    by_cases c0 : x.chk = 0
    · have e0 : (x.chk == 0) = true := by simp [c0]
      by_cases r0 : x.rep = 0
      · have e1 : (x.rep == 0) = true := by simp [r0]
        have HS : Hid (sil x.chk x.rep = true) := decide_eq_true ⟨c0, r0⟩
        go_wp2
        go_meet
        exact ⟨by rw [HS.out], rfl⟩
      · have e1 : (x.rep == 0) = false := by simp [r0]
        have HS : Hid (sil x.chk x.rep = false) := decide_eq_false (fun h => r0 h.2)
        go_wp2
        go_meet
        exact ⟨by rw [HS.out], rfl⟩
    · have e0 : (x.chk == 0) = false := by simp [c0]
      have HS : Hid (sil x.chk x.rep = false) := decide_eq_false (fun h => c0 h.1)
      go_wp2
      go_meet
      exact ⟨by rw [HS.out], rfl⟩
  case rest =>
    obtain ⟨rfl, rfl⟩ := hcut
    obtain ⟨S, hS⟩ : ∃ S, sil x.chk x.rep = S := ⟨_, rfl⟩
    obtain ⟨A, hA⟩ : ∃ A, asB x.chk x.rep = A := ⟨_, rfl⟩
    have HS : Hid (sil x.chk x.rep = S) := hS
    have HA : Hid (asB x.chk x.rep = A) := hA
    rw [hS]
    rw [hA] at HAS
    clear hS hA
    have HPI : Hid (∀ b : Bool, ((0 ≤ x.frm ∧ x.frm < x.to ∧
      ((x.typ = 0 ∧ x.to < k.red ∧ S = true) ∨ (x.typ = 1 ∧ x.to < k.red ∧ A = true) ∨ ((x.typ = 2 ∨ x.typ = 3) ∧ x.to = k.red ∧ x.typ = endT k ∧ A = true) ∨
       (x.typ = 4 ∧ k.red ≤ x.frm ∧ x.to < k.size ∧ S = true) ∨ (x.typ = 7 ∧ k.red ≤ x.frm ∧ x.to = k.size ∧ S = true))) ↔ b = true) → q = b) := fun b h => HF.out b (by unfold PieceP; rw [HS.out, HA.out]; exact h)
    clear HF HS HA
    generalize endT k = E at *
    by_cases t0 : x.typ = 0
    · have e0 : (x.typ == 0) = true := by simp [t0]
      by_cases h3 : x.to < k.red
      · go_wp2
        go_ret
        exact ⟨by rw [HPI.out S (by cases S <;> simp <;> omega)]; rfl, HB.out⟩
      · go_wp2
        go_ret
        exact ⟨by rw [HPI.out false (by simp; omega)]; rfl, HB.out⟩
    have e0 : (x.typ == 0) = false := by simp [t0]
    by_cases t1 : x.typ = 1
    · have e1 : (x.typ == 1) = true := by simp [t1]
      by_cases h3 : x.to < k.red
      · go_wp2_with fail
        refine (HAS _).mono ?_
        rintro e w' ⟨rfl, rfl⟩
        go_wp2
        go_ret
        exact ⟨by rw [HPI.out A (by cases A <;> simp <;> omega)]; rfl, HB.out⟩
      · go_wp2
        go_ret
        exact ⟨by rw [HPI.out false (by simp; omega)]; rfl, HB.out⟩
    have e1 : (x.typ == 1) = false := by simp [t1]
    have hX : PX k x w ((w.alloc (.cells (pclC k) 25)).alloc (.cells (pcC x) 56)) := by
      refine ⟨heapA (heap_alloc_new' _ _) _, ?_, HB.out⟩
      have := heap_alloc_new' (w.alloc (.cells (pclC k) 25)) (.cells (pcC x) 56)
      rw [World.size_alloc] at this; exact this
    have hall : ∀ y, PX k x w (ext ((w.alloc (.cells (pclC k) 25)).alloc (.cells (pcC x) 56)) y) := fun y => hX.below (ext_below _ y)
    have HEX : ∀ y, Calls Tryd.prog 31 #[.agg (pclC k)] (ext ((w.alloc (.cells (pclC k) 25)).alloc (.cells (pcC x) 56)) y) fun e w'' => e = .returned (.int .i64 E) ∧ ∃ z, w'' = ext ((w.alloc (.cells (pclC k) 25)).alloc (.cells (pcC x) 56)) z := fun y => (HE _).mono (fun e w' h => ⟨h.1, _, h.2.trans (ext_snoc _ _ _)⟩)
    have HBE : Hid (∀ y, Below w.heap.size w (ext ((w.alloc (.cells (pclC k) 25)).alloc (.cells (pcC x) 56)) y)) := fun y => (hall y).bel
    have p0 := fun y => (hall y).all.1
    have p1 := fun y => (hall y).all.2.1
    have p2 := fun y => (hall y).all.2.2.1
    have p3 := fun y => (hall y).all.2.2.2.1
    have p4 := fun y => (hall y).all.2.2.2.2.1
    have p5 := fun y => (hall y).all.2.2.2.2.2.1
    have p7 := fun y => (hall y).all.2.2.2.2.2.2.2.1
    have p8 := fun y => (hall y).all.2.2.2.2.2.2.2.2.1
    have p9 := fun y => (hall y).all.2.2.2.2.2.2.2.2.2.1
    clear HE hall hX
    by_cases t23 : x.typ = 2 ∨ x.typ = 3
    · have e23 : Hid (x.typ = 2 ∨ x.typ = 3) := t23
      by_cases h3 : x.to = k.red
      rotate_left
      · have e3 : (x.to == k.red) = false := by simp [h3]
        have HV : Hid (q = false) := HPI.out false (by simp; omega)
        clear HPI HAS HEX p0 p1 p2 p3 p4 p5 p7 p8 p9 HBE
        rcases t23 with t2 | t3
        · have e2 : (x.typ == 2) = true := by simp [t2]
          go_wp2_with fail
          go_quiet (fail)
          go_wp2
          go_ret
          exact ⟨by rw [HV.out]; rfl, below_drewN HB.out _⟩
        · have e2 : (x.typ == 2) = false := by simp [t3]
          have e4 : (x.typ == 3) = true := by simp [t3]
          go_wp2_with fail
          go_quiet (fail)
          go_wp2
          go_ret
          exact ⟨by rw [HV.out]; rfl, below_drewN HB.out _⟩
      have e3 : (x.to == k.red) = true := by simp [h3]
      have HV : Hid (q = (decide (x.typ = E) && A)) := HPI.out _ (by cases A <;> simp <;> omega)
      clear HPI h3
      by_cases h4 : x.typ = E
      · have e4 : (x.typ == E) = true := by simp [h4]
        rw [decide_eq_true h4, Bool.true_and] at HV
        clear h4
        rcases t23 with t2 | t3
        · have e2 : (x.typ == 2) = true := by simp [t2]
          clear t2
          go_wp2_with fail
          refine wp_region_ext (by kernel_rfl) (by kernel_rfl) ?_
          repeat (go_big_quiet_step (first
            | (go_at_call 31; exact HEX _)
            | (go_at_call 33; exact ext_same (HAS _))))
          refine wpQuiet_nil ?_
          intro w' hw'
          obtain ⟨y, hw''⟩ := hw'
          subst hw''
          go_wp2
          go_ret
          exact ⟨by rw [HV.out]; rfl, HBE.out y⟩
        · have e2 : (x.typ == 2) = false := by simp [t3]
          have e5 : (x.typ == 3) = true := by simp [t3]
          clear t3
          go_wp2_with fail
          refine wp_region_ext (by kernel_rfl) (by kernel_rfl) ?_
          repeat (go_big_quiet_step (first
            | (go_at_call 31; exact HEX _)
            | (go_at_call 33; exact ext_same (HAS _))))
          refine wpQuiet_nil ?_
          intro w' hw'
          obtain ⟨y, hw''⟩ := hw'
          subst hw''
          go_wp2
          go_ret
          exact ⟨by rw [HV.out]; rfl, HBE.out y⟩
      · have e4 : (x.typ == E) = false := by simp [h4]
        rw [decide_eq_false h4, Bool.false_and] at HV
        clear h4
        rcases t23 with t2 | t3
        · have e2 : (x.typ == 2) = true := by simp [t2]
          clear t2
          go_wp2_with fail
          refine wp_region_ext (by kernel_rfl) (by kernel_rfl) ?_
          repeat (go_big_quiet_step (first
            | (go_at_call 31; exact HEX _)
            | (go_at_call 33; exact ext_same (HAS _))))
          refine wpQuiet_nil ?_
          intro w' hw'
          obtain ⟨y, hw''⟩ := hw'
          subst hw''
          go_wp2
          go_ret
          exact ⟨by rw [HV.out]; rfl, HBE.out y⟩
        · have e2 : (x.typ == 2) = false := by simp [t3]
          have e5 : (x.typ == 3) = true := by simp [t3]
          clear t3
          go_wp2_with fail
          refine wp_region_ext (by kernel_rfl) (by kernel_rfl) ?_
          repeat (go_big_quiet_step (first
            | (go_at_call 31; exact HEX _)
            | (go_at_call 33; exact ext_same (HAS _))))
          refine wpQuiet_nil ?_
          intro w' hw'
          obtain ⟨y, hw''⟩ := hw'
          subst hw''
          go_wp2
          go_ret
          exact ⟨by rw [HV.out]; rfl, HBE.out y⟩
    have t2 : ¬ x.typ = 2 := fun h => t23 (.inl h)
    have t3 : ¬ x.typ = 3 := fun h => t23 (.inr h)
    have e2 : (x.typ == 2) = false := by simp [t2]
    have e3 : (x.typ == 3) = false := by simp [t3]
    clear HAS HEX p0 p1 p2 p3 p4 p5 p7 p8 p9 HBE t23
    by_cases t4 : x.typ = 4
    · have e4 : (x.typ == 4) = true := by simp [t4]
      by_cases h3 : k.red ≤ x.frm
      · by_cases h4 : x.to < k.size
        · have HV : Hid (q = S) := HPI.out S (by cases S <;> simp <;> omega)
          clear HPI
          go_wp2
          go_ret
          exact ⟨by rw [HV.out]; rfl, HB.out⟩
        · have HV : Hid (q = false) := HPI.out false (by simp; omega)
          clear HPI
          go_wp2
          go_ret
          exact ⟨by rw [HV.out]; rfl, HB.out⟩
      · have HV : Hid (q = false) := HPI.out false (by simp; omega)
        clear HPI
        go_wp2
        go_ret
        exact ⟨by rw [HV.out]; rfl, HB.out⟩
    have e4 : (x.typ == 4) = false := by simp [t4]
    by_cases t7 : x.typ = 7
    · have e7 : (x.typ == 7) = true := by simp [t7]
      by_cases h3 : k.red ≤ x.frm
      · by_cases h4 : x.to = k.size
        · have e5 : (x.to == k.size) = true := by simp [h4]
          have HV : Hid (q = S) := HPI.out S (by cases S <;> simp <;> omega)
          clear HPI h4
          go_wp2
          go_ret
          exact ⟨by rw [HV.out]; rfl, HB.out⟩
        · have e5 : (x.to == k.size) = false := by simp [h4]
          have HV : Hid (q = false) := HPI.out false (by simp; omega)
          clear HPI h4
          go_wp2
          go_ret
          exact ⟨by rw [HV.out]; rfl, HB.out⟩
      · have HV : Hid (q = false) := HPI.out false (by simp; omega)
        clear HPI
        go_wp2
        go_ret
        exact ⟨by rw [HV.out]; rfl, HB.out⟩
    have e7 : (x.typ == 7) = false := by simp [t7]
    have HV : Hid (q = false) := HPI.out false (by simp; omega)
    clear HPI
    go_wp2
    go_ret
    exact ⟨by rw [HV.out]; rfl, HB.out⟩

end Go.Proofs.YtcfodcioeefbeaaDoor
