import Derived.Test.YtnclfoljfnfglaiTmAll
import Derived.Test.YtnclfoljfnfglaiTmEn
import Derived.Test.YtnclfoljfnfglaiTmAwk
namespace Go.Proofs.Ytnclfoljfnfglai
open Go.RowKit Go.Maps
set_option linter.unusedVariables false

def ownI (N g : Nat) : Nat := if g < N then 0 else if g = N then 6 else if g ≤ N + 3 then 1 else if g = N + 4 then 3 else if g ≤ N + 7 then 2 else if g = N + 8 then 4 else 0
def TI (N : Nat) (k : Bool) : Tbl := if k = true then ⟨N + 7, N + 5, N + 6, N + 8, [], [], [], []⟩ else ⟨N + 3, N + 1, N + 2, N + 4, [], [], [], []⟩
theorem ws_init {base N : Nat} {w : World} (hb : base ≤ N) (hN : N < w.heap.size) (hbx : w.heap[N]? = some (.cells #[.pointer (some ⟨N + 3, 0, none⟩), .pointer (some ⟨N + 7, 0, none⟩), .pointer (some ⟨N + 4, 0, none⟩), .pointer (some ⟨N + 8, 0, none⟩), .slice none 0 0, .slice none 0 0] 44 (0, 0)))
    (t0 : Tb w (N + 3) (N + 1) (N + 2) [] []) (t1 : Tb w (N + 7) (N + 5) (N + 6) [] []) (r0 : Rf w (N + 4) (fun _ => False) [] []) (r1 : Rf w (N + 8) (fun _ => False) [] []) : Ws base w N 0 := by
  refine ⟨ownI N, TI N, .slice none 0 0, .slice none 0 0, [], [], [], ⟨hbx, ?_, fun k => ?_, fun k => ?_, fun k => ?_, fun k => ?_, World.ownsRow_nil _ _ _ _, fun g hg => by simp [Value.ownBlock] at hg, World.ownsRow_nil _ _ _ _, fun g hg => by simp [Value.ownBlock] at hg, rfl, rfl, fun i v l h => by simp at h, fun i v g h => by simp at h, fun i v l h => by simp at h, fun i v g h => by simp at h⟩, fun k => ?_, by simp, fun l hl => by simp at hl, fun g hg => ?_, by omega⟩
  · unfold ownI; simp
  · cases k
    · exact t0
    · exact t1
  · cases k
    · simp [ownI, TI, tgT]
    · simp [ownI, TI, tgT]
  · cases k
    · exact r0.more fun g hg _ => hg.elim
    · exact r1.more fun g hg _ => hg.elim
  · cases k
    · simp [ownI, TI, tgR]
    · simp [ownI, TI, tgR]
  · cases k
    · exact Rel.nil
    · exact Rel.nil
  · unfold ownI; rw [if_pos (by omega)]

set_option maxHeartbeats 32000000 in
set_option maxRecDepth 100000 in
theorem plays_walk (a0 : Option Addr) (l : List Opx) (c0 : Nat) (w : World) (hS : Ost w a0 l) (hok : ∀ x ∈ l, opOk x) (hln : l.length ≤ 2199023255488) :
    Calls Try.prog 7 #[.slice a0 l.length c0] w fun e w' => e = .returned (.bool true) ∧ Below w.heap.size w w' := by
  have HS : Hid (Ost w a0 l) := hS
  have HOk : Hid (∀ x ∈ l, opOk x) := hok
  obtain ⟨n, hn⟩ : ∃ n, l.length = n := ⟨_, rfl⟩
  have HN : Hid (l.length = n) := hn
  rw [hn] at hln ⊢
  have hA := awake10_any w
  clear hS hok hn
  go_enter Try.func7, Try.ntmps7
  go_wp2_with fail
  refine hA.mono ?_
  rintro e w1 ⟨rfl, hb1⟩
  have HB1 : Hid (Below w.heap.size w w1) := hb1
  clear hb1 hA
  obtain ⟨N, hNe⟩ : ∃ N, w1.heap.size = N := ⟨_, rfl⟩
  obtain ⟨W, hW⟩ : ∃ W, w1.alloc (.cells #[.pointer none, .pointer none, .pointer none, .pointer none, .slice none 0 0, .slice none 0 0] 44) = W := ⟨_, rfl⟩
  have HN1 : Hid (w.heap.size ≤ N ∧ W.heap.size = N + 1 ∧ Below w.heap.size w W ∧ W.heap[N]? = some (.cells #[.pointer none, .pointer none, .pointer none, .pointer none, .slice none 0 0, .slice none 0 0] 44 (0, 0))) := by
    refine ⟨by rw [← hNe]; exact HB1.out.size, by rw [← hW, ← hNe]; simp, by rw [← hW]; exact HB1.out.alloc HB1.out.size _, ?_⟩
    rw [← hW, ← hNe]; exact (MapKept.heap_alloc _ _).1
  go_wp2
  clear hW hNe HB1
  have HP0 : Hid (∀ V : World, V.heap.size = N + 1 → Calls Try.prog 19 #[] V fun e w' => e = .returned (.pointer (some ⟨N + 3, 0, none⟩)) ∧ Tb w' (N + 3) (N + 1) (N + 2) [] [] ∧ Below V.heap.size V w' ∧ w'.heap.size = N + 4) := fun V hV => by
    have := new10_any V; rw [hV] at this; rw [hV]; exact this
  have HP1 : Hid (∀ V : World, V.heap.size = N + 5 → Calls Try.prog 19 #[] V fun e w' => e = .returned (.pointer (some ⟨N + 7, 0, none⟩)) ∧ Tb w' (N + 7) (N + 5) (N + 6) [] [] ∧ Below V.heap.size V w' ∧ w'.heap.size = N + 8) := fun V hV => by
    have := new10_any V; rw [hV] at this; rw [hV]; exact this
  have HQ0 : Hid (∀ V : World, V.heap.size = N + 4 → Calls Try.prog 20 #[] V fun e w' => e = .returned (.pointer (some ⟨N + 4, 0, none⟩)) ∧ Rf w' (N + 4) (fun _ => False) [] [] ∧ Below V.heap.size V w' ∧ w'.heap.size = N + 5) := fun V hV => by
    have := new2_any V; rw [hV] at this; rw [hV]; exact this
  have HQ1 : Hid (∀ V : World, V.heap.size = N + 8 → Calls Try.prog 20 #[] V fun e w' => e = .returned (.pointer (some ⟨N + 8, 0, none⟩)) ∧ Rf w' (N + 8) (fun _ => False) [] [] ∧ Below V.heap.size V w' ∧ w'.heap.size = N + 9) := fun V hV => by
    have := new2_any V; rw [hV] at this; rw [hV]; exact this
  go_loopw [5] (fun v wr => ∃ q : Int, v = .int .i64 q ∧ Below w.heap.size w wr ∧ ((q = 0 ∧ wr = W) ∨
      (q = 1 ∧ wr.heap.size = N + 5 ∧ wr.heap[N]? = some (.cells #[.pointer (some ⟨N + 3, 0, none⟩), .pointer none, .pointer (some ⟨N + 4, 0, none⟩), .pointer none, .slice none 0 0, .slice none 0 0] 44 (0, 0)) ∧ Tb wr (N + 3) (N + 1) (N + 2) [] [] ∧ Rf wr (N + 4) (fun _ => False) [] []) ∨
      (q = 2 ∧ Ws w.heap.size wr N 0))) (fun v _ => 2 - (intOf v).toNat)
  case atStart => exact ⟨0, rfl, HN1.out.2.2.1, .inl ⟨rfl, rfl⟩⟩
  case round =>
    obtain ⟨q, rfl, hB, hst⟩ := hrel
    rcases hst with ⟨rfl, rfl⟩ | ⟨rfl, hsz, hbx, hT0, hR0⟩ | ⟨rfl, hWs⟩
    · have hbx := HN1.out.2.2.2
      have hsz := HN1.out.2.1
      have HOld : Hid True := trivial
      have HB : Hid (Below w.heap.size w wr ∧ w.heap.size ≤ N) := ⟨hB, HN1.out.1⟩
      have HBx : Hid (wr.heap[N]? = some (.cells #[.pointer none, .pointer none, .pointer none, .pointer none, .slice none 0 0, .slice none 0 0] 44 (0, 0))) := hbx
      have hNl : N < wr.heap.size := by rw [hsz]; omega
      have HSz : Hid (wr.heap.size = N + 1) := hsz
      have c1 : wr.cell? ⟨N, 0, none⟩ = some (.pointer none) := by simp [World.cell?, hbx]
      have z1 : wr.frozen? ⟨N, 0, none⟩ = false := frozen_of_row wr N 0 _ _ hbx
      clear hB hbx hsz
      go_wp2_with fail
      go_region_with (first
        | (go_at_call 19
           refine (HP0.out wr.drew HSz.out).mono ?_
           rintro e w2 ⟨rfl, hT2, hb2, hz2⟩
           have hb2' : Below wr.heap.size wr w2 := ⟨hb2.os, hb2.tape, hb2.output, hb2.size, fun g hg => hb2.block g hg⟩
           have HT2 : Hid (Tb w2 (N + 3) (N + 1) (N + 2) [] [] ∧ Below wr.heap.size wr w2 ∧ w2.heap.size = N + 4) := ⟨hT2, hb2', hz2⟩
           have c2 := tm_cell c1 hb2'
           have z2 : w2.frozen? ⟨N, 0, none⟩ = false := (World.frozen?_of_block (a := ⟨N, 0, none⟩) (hb2'.block N hNl)).trans z1
           clear hT2 hb2 hb2' hz2))
      all_goals (
        obtain ⟨X, hX⟩ : ∃ X, w2.setCell ⟨N, 0, none⟩ (.pointer (some ⟨N + 3, 0, none⟩)) = X := ⟨_, rfl⟩
        rw [hX]
        have K2 : Kq (· = N) w2 X := by rw [← hX]; exact (Kq.refl _ _).setC ⟨N, 0, none⟩ _ (.inl rfl)
        have hxs : X.heap.size = N + 4 := by rw [← hX]; simp; exact HT2.out.2.2
        have hxb : X.heap[N]? = some (.cells #[.pointer (some ⟨N + 3, 0, none⟩), .pointer none, .pointer none, .pointer none, .slice none 0 0, .slice none 0 0] 44 (0, 0)) := by rw [← hX]; exact heap_setCell_same w2 N 0 _ _ _ ((HT2.out.2.1.block N hNl).trans HBx.out)
        have HX : Hid (Tb X (N + 3) (N + 1) (N + 2) [] [] ∧ X.heap.size = N + 4 ∧ X.heap[N]? = some (.cells #[.pointer (some ⟨N + 3, 0, none⟩), .pointer none, .pointer none, .pointer none, .slice none 0 0, .slice none 0 0] 44 (0, 0))) := ⟨HT2.out.1.keep K2 (by show ¬ _ = _; omega) (by show ¬ _ = _; omega) (by show ¬ _ = _; omega), hxs, hxb⟩
        have HBX : Hid (Below w.heap.size w X) := HB.out.1.trans ((below_dn HT2.out.2.1 (by have := HB.out.1.size; exact this)).trans (K2.below (by have := HB.out.1.size; have := HT2.out.2.1.size; omega) (fun g hg => by rw [show g = N from hg]; exact HB.out.2)))
        have HOx : Hid True := trivial
        have hNx : N < X.heap.size := by rw [hxs]; omega
        have c3 : X.cell? ⟨N, 2, none⟩ = some (.pointer none) := by simp [World.cell?, hxb]
        have z3 : X.frozen? ⟨N, 2, none⟩ = false := frozen_of_row X N 2 _ _ hxb
        clear hX K2 hxs hxb c1 z1 c2 z2 HT2 HBx HSz HOld
        go_wp2_with fail
        go_region_with (first
          | (go_at_call 20
             refine (HQ0.out X.drew HX.out.2.1).mono ?_
             rintro e w3 ⟨rfl, hR3, hb3, hz3⟩
             have hb3' : Below X.heap.size X w3 := ⟨hb3.os, hb3.tape, hb3.output, hb3.size, fun g hg => hb3.block g hg⟩
             have HR3 : Hid (Rf w3 (N + 4) (fun _ => False) [] [] ∧ Below X.heap.size X w3 ∧ w3.heap.size = N + 5) := ⟨hR3, hb3', hz3⟩
             have c4 := tm_cell c3 hb3'
             have z4 : w3.frozen? ⟨N, 2, none⟩ = false := (World.frozen?_of_block (a := ⟨N, 2, none⟩) (hb3'.block N hNx)).trans z3
             clear hR3 hb3 hb3' hz3))
        all_goals (
          obtain ⟨Y, hY⟩ : ∃ Y, w3.setCell ⟨N, 2, none⟩ (.pointer (some ⟨N + 4, 0, none⟩)) = Y := ⟨_, rfl⟩
          rw [hY]
          have K3 : Kq (· = N) w3 Y := by rw [← hY]; exact (Kq.refl _ _).setC ⟨N, 2, none⟩ _ (.inl rfl)
          have hys : Y.heap.size = N + 5 := by rw [← hY]; simp; exact HR3.out.2.2
          have hyb : Y.heap[N]? = some (.cells #[.pointer (some ⟨N + 3, 0, none⟩), .pointer none, .pointer (some ⟨N + 4, 0, none⟩), .pointer none, .slice none 0 0, .slice none 0 0] 44 (0, 0)) := by rw [← hY]; exact heap_setCell_same w3 N 2 _ _ _ ((HR3.out.2.1.block N hNx).trans HX.out.2.2)
          have hyt : Tb Y (N + 3) (N + 1) (N + 2) [] [] := (HX.out.1.keep (S := fun _ => False) (Kq.of_below HR3.out.2.1) (fun h => h) (fun h => h) (fun h => h)).keep K3 (by show ¬ _ = _; omega) (by show ¬ _ = _; omega) (by show ¬ _ = _; omega)
          have hyr : Rf Y (N + 4) (fun _ => False) [] [] := HR3.out.1.keep K3 (fun g hg => ⟨by rw [show g = N from hg]; omega, fun h => h⟩)
          have HBY : Hid (Below w.heap.size w Y) := HBX.out.trans ((below_dn HR3.out.2.1 HBX.out.size).trans (K3.below (by have := HBX.out.size; have := HR3.out.2.1.size; omega) (fun g hg => by rw [show g = N from hg]; exact HB.out.2)))
          have HEnd : Hid (Y.heap.size = N + 5 ∧ Y.heap[N]? = some (.cells #[.pointer (some ⟨N + 3, 0, none⟩), .pointer none, .pointer (some ⟨N + 4, 0, none⟩), .pointer none, .slice none 0 0, .slice none 0 0] 44 (0, 0)) ∧ Tb Y (N + 3) (N + 1) (N + 2) [] [] ∧ Rf Y (N + 4) (fun _ => False) [] []) := ⟨hys, hyb, hyt, hyr⟩
          have c5 : Y.cell? ⟨N, 0, none⟩ = some (.pointer (some ⟨N + 3, 0, none⟩)) := by simp [World.cell?, hyb]
          clear hY K3 hys hyb hyt hyr c3 z3 c4 z4 HR3 HX HBX HOx
          go_wp2
          exact ⟨⟨1, by simp, HBY.out, .inr (.inl ⟨rfl, HEnd.out⟩)⟩, by simp [intOf]⟩))
    · have HOld : Hid (Tb wr (N + 3) (N + 1) (N + 2) [] [] ∧ Rf wr (N + 4) (fun _ => False) [] []) := ⟨hT0, hR0⟩
      clear hT0 hR0
      have HB : Hid (Below w.heap.size w wr ∧ w.heap.size ≤ N) := ⟨hB, HN1.out.1⟩
      have HBx : Hid (wr.heap[N]? = some (.cells #[.pointer (some ⟨N + 3, 0, none⟩), .pointer none, .pointer (some ⟨N + 4, 0, none⟩), .pointer none, .slice none 0 0, .slice none 0 0] 44 (0, 0))) := hbx
      have hNl : N < wr.heap.size := by rw [hsz]; omega
      have HSz : Hid (wr.heap.size = N + 5) := hsz
      have c1 : wr.cell? ⟨N, 1, none⟩ = some (.pointer none) := by simp [World.cell?, hbx]
      have z1 : wr.frozen? ⟨N, 1, none⟩ = false := frozen_of_row wr N 1 _ _ hbx
      clear hB hbx hsz
      go_wp2_with fail
      go_region_with (first
        | (go_at_call 19
           refine (HP1.out wr.drew HSz.out).mono ?_
           rintro e w2 ⟨rfl, hT2, hb2, hz2⟩
           have hb2' : Below wr.heap.size wr w2 := ⟨hb2.os, hb2.tape, hb2.output, hb2.size, fun g hg => hb2.block g hg⟩
           have HT2 : Hid (Tb w2 (N + 7) (N + 5) (N + 6) [] [] ∧ Below wr.heap.size wr w2 ∧ w2.heap.size = N + 8) := ⟨hT2, hb2', hz2⟩
           have c2 := tm_cell c1 hb2'
           have z2 : w2.frozen? ⟨N, 1, none⟩ = false := (World.frozen?_of_block (a := ⟨N, 1, none⟩) (hb2'.block N hNl)).trans z1
           clear hT2 hb2 hb2' hz2))
      all_goals (
        obtain ⟨X, hX⟩ : ∃ X, w2.setCell ⟨N, 1, none⟩ (.pointer (some ⟨N + 7, 0, none⟩)) = X := ⟨_, rfl⟩
        rw [hX]
        have K2 : Kq (· = N) w2 X := by rw [← hX]; exact (Kq.refl _ _).setC ⟨N, 1, none⟩ _ (.inl rfl)
        have hxs : X.heap.size = N + 8 := by rw [← hX]; simp; exact HT2.out.2.2
        have hxb : X.heap[N]? = some (.cells #[.pointer (some ⟨N + 3, 0, none⟩), .pointer (some ⟨N + 7, 0, none⟩), .pointer (some ⟨N + 4, 0, none⟩), .pointer none, .slice none 0 0, .slice none 0 0] 44 (0, 0)) := by rw [← hX]; exact heap_setCell_same w2 N 1 _ _ _ ((HT2.out.2.1.block N hNl).trans HBx.out)
        have HX : Hid (Tb X (N + 7) (N + 5) (N + 6) [] [] ∧ X.heap.size = N + 8 ∧ X.heap[N]? = some (.cells #[.pointer (some ⟨N + 3, 0, none⟩), .pointer (some ⟨N + 7, 0, none⟩), .pointer (some ⟨N + 4, 0, none⟩), .pointer none, .slice none 0 0, .slice none 0 0] 44 (0, 0))) := ⟨HT2.out.1.keep K2 (by show ¬ _ = _; omega) (by show ¬ _ = _; omega) (by show ¬ _ = _; omega), hxs, hxb⟩
        have HBX : Hid (Below w.heap.size w X) := HB.out.1.trans ((below_dn HT2.out.2.1 (by have := HB.out.1.size; exact this)).trans (K2.below (by have := HB.out.1.size; have := HT2.out.2.1.size; omega) (fun g hg => by rw [show g = N from hg]; exact HB.out.2)))
        have HOx : Hid (Tb X (N + 3) (N + 1) (N + 2) [] [] ∧ Rf X (N + 4) (fun _ => False) [] []) := by
          have q1 := HOld.out.1.keep (S := fun _ => False) (Kq.of_below HT2.out.2.1) (fun h => h) (fun h => h) (fun h => h)
          have q2 := HOld.out.2.keep (S := fun _ => False) (Kq.of_below HT2.out.2.1) (fun _ h => h.elim)
          exact ⟨q1.keep K2 (by show ¬ _ = _; omega) (by show ¬ _ = _; omega) (by show ¬ _ = _; omega), q2.keep K2 (fun g hg => ⟨by rw [show g = N from hg]; omega, fun h => h⟩)⟩
        have hNx : N < X.heap.size := by rw [hxs]; omega
        have c3 : X.cell? ⟨N, 3, none⟩ = some (.pointer none) := by simp [World.cell?, hxb]
        have z3 : X.frozen? ⟨N, 3, none⟩ = false := frozen_of_row X N 3 _ _ hxb
        clear hX K2 hxs hxb c1 z1 c2 z2 HT2 HBx HSz HOld
        go_wp2_with fail
        go_region_with (first
          | (go_at_call 20
             refine (HQ1.out X.drew HX.out.2.1).mono ?_
             rintro e w3 ⟨rfl, hR3, hb3, hz3⟩
             have hb3' : Below X.heap.size X w3 := ⟨hb3.os, hb3.tape, hb3.output, hb3.size, fun g hg => hb3.block g hg⟩
             have HR3 : Hid (Rf w3 (N + 8) (fun _ => False) [] [] ∧ Below X.heap.size X w3 ∧ w3.heap.size = N + 9) := ⟨hR3, hb3', hz3⟩
             have c4 := tm_cell c3 hb3'
             have z4 : w3.frozen? ⟨N, 3, none⟩ = false := (World.frozen?_of_block (a := ⟨N, 3, none⟩) (hb3'.block N hNx)).trans z3
             clear hR3 hb3 hb3' hz3))
        all_goals (
          obtain ⟨Y, hY⟩ : ∃ Y, w3.setCell ⟨N, 3, none⟩ (.pointer (some ⟨N + 8, 0, none⟩)) = Y := ⟨_, rfl⟩
          rw [hY]
          have K3 : Kq (· = N) w3 Y := by rw [← hY]; exact (Kq.refl _ _).setC ⟨N, 3, none⟩ _ (.inl rfl)
          have hys : Y.heap.size = N + 9 := by rw [← hY]; simp; exact HR3.out.2.2
          have hyb : Y.heap[N]? = some (.cells #[.pointer (some ⟨N + 3, 0, none⟩), .pointer (some ⟨N + 7, 0, none⟩), .pointer (some ⟨N + 4, 0, none⟩), .pointer (some ⟨N + 8, 0, none⟩), .slice none 0 0, .slice none 0 0] 44 (0, 0)) := by rw [← hY]; exact heap_setCell_same w3 N 3 _ _ _ ((HR3.out.2.1.block N hNx).trans HX.out.2.2)
          have hyt : Tb Y (N + 7) (N + 5) (N + 6) [] [] := (HX.out.1.keep (S := fun _ => False) (Kq.of_below HR3.out.2.1) (fun h => h) (fun h => h) (fun h => h)).keep K3 (by show ¬ _ = _; omega) (by show ¬ _ = _; omega) (by show ¬ _ = _; omega)
          have hyr : Rf Y (N + 8) (fun _ => False) [] [] := HR3.out.1.keep K3 (fun g hg => ⟨by rw [show g = N from hg]; omega, fun h => h⟩)
          have HBY : Hid (Below w.heap.size w Y) := HBX.out.trans ((below_dn HR3.out.2.1 HBX.out.size).trans (K3.below (by have := HBX.out.size; have := HR3.out.2.1.size; omega) (fun g hg => by rw [show g = N from hg]; exact HB.out.2)))
          have hyo : Tb Y (N + 3) (N + 1) (N + 2) [] [] ∧ Rf Y (N + 4) (fun _ => False) [] [] := by
            have q1 := HOx.out.1.keep (S := fun _ => False) (Kq.of_below HR3.out.2.1) (fun h => h) (fun h => h) (fun h => h)
            have q2 := HOx.out.2.keep (S := fun _ => False) (Kq.of_below HR3.out.2.1) (fun _ h => h.elim)
            exact ⟨q1.keep K3 (by show ¬ _ = _; omega) (by show ¬ _ = _; omega) (by show ¬ _ = _; omega), q2.keep K3 (fun g hg => ⟨by rw [show g = N from hg]; omega, fun h => h⟩)⟩
          have HEnd : Hid (Ws w.heap.size Y N 0) := ws_init HB.out.2 (by rw [hys]; omega) hyb hyo.1 hyt hyo.2 hyr
          clear hyo
          have c5 : Y.cell? ⟨N, 1, none⟩ = some (.pointer (some ⟨N + 7, 0, none⟩)) := by simp [World.cell?, hyb]
          clear hY K3 hys hyb hyt hyr c3 z3 c4 z4 HR3 HX HBX HOx
          go_wp2
          exact ⟨⟨2, by simp, HBY.out, .inr (.inr ⟨rfl, HEnd.out⟩)⟩, by simp [intOf]⟩))
    · have HWs : Hid (Ws w.heap.size wr N 0) := hWs
      have HB : Hid (Below w.heap.size w wr) := hB
      clear hWs hB HP0 HP1 HQ0 HQ1
      go_wp2
      go_loopw [6] (fun v wr => ∃ i : Nat, v = .int .i64 i ∧ i ≤ n ∧ Ws w.heap.size wr N i ∧ Below w.heap.size w wr) (fun v _ => n - (intOf v).toNat)
      case atStart => exact ⟨0, rfl, by omega, HWs.out, HB.out⟩
      case round =>
        clear HWs HB
        obtain ⟨i, rfl, hi, hWs, hB⟩ := hrel
        have HWs : Hid (Ws w.heap.size wr N i) := hWs
        have HB : Hid (Below w.heap.size w wr) := hB
        clear hWs hB
        by_cases hin : i = n
        · subst hin
          have hz : ¬ (i : Int) < (i : Int) := by omega
          have hA0 := all_any w.heap.size N i false wr HWs.out (by omega)
          rw [if_neg Bool.false_ne_true] at hA0
          go_wp2_with fail
          refine hA0.mono ?_
          rintro e w4 ⟨rfl, hb4⟩
          have HW4 : Hid (Ws w.heap.size w4 N (i + 1)) := HWs.out.same hb4
          have HB4 : Hid (Below w.heap.size w w4) := HB.out.trans (below_dn hb4 HB.out.size)
          clear hb4 hA0 HWs HB
          have hA1 := all_any w.heap.size N (i + 1) true w4 HW4.out (by omega)
          rw [if_pos rfl] at hA1
          go_wp2_with fail
          refine hA1.mono ?_
          rintro e w5 ⟨rfl, hb5⟩
          have HW5 : Hid (Ws w.heap.size w5 N (i + 1 + 1)) := HW4.out.same hb5
          have HB5 : Hid (Below w.heap.size w w5) := HB4.out.trans (below_dn hb5 HB4.out.size)
          clear hb5 hA1 HW4 HB4
          have hE := ends_any w.heap.size N (i + 1 + 1) w5 HW5.out (by omega)
          go_wp2_with fail
          refine hE.mono ?_
          rintro e w6 ⟨rfl, hb6⟩
          have HB6 : Hid (Below w.heap.size w w6) := HB5.out.trans hb6
          clear hb6 hE HW5 HB5
          go_wp2
          go_ret
          exact ⟨rfl, HB6.out⟩
        · have hz : (i : Int) < (n : Int) := by omega
          have hwi : IntKind.i64.wrap ((i : Int) + 1) = (i : Int) + 1 := by rw [IntKind.wrap_i64]; omega
          obtain ⟨x, hx⟩ : ∃ x, l[i]? = some x := ⟨_, List.getElem?_eq_getElem (by rw [HN.out]; omega)⟩
          have hSt := step_any w.heap.size N i x wr HWs.out (by omega) (HOk.out x (List.mem_of_getElem? hx))
          rcases HS.out.below HB.out with hnil | ⟨g, off, rfl, hcell⟩
          · rw [hnil] at hx; simp at hx
          obtain ⟨s0, s1, s2, s3, s4, s5, s6, s7⟩ := hcell i _ hx
          obtain ⟨kd, tw, ⟨k0, k1, k2, k3, k4⟩, m⟩ := x
          simp only at s0 s1 s2 s3 s4 s5 s6 s7
          rw [Nat.add_zero] at s0
          rw [show (opV (kd, tw, (k0, k1, k2, k3, k4), m)).toArray = #[.int .i64 kd, .bool tw, .int .i64 k0, .int .i64 k1, .int .i64 k2, .int .i64 k3, .int .i64 k4, .int .i64 m] from rfl] at hSt
          clear hx hcell
          go_wp2_with fail
          refine hSt.mono ?_
          rintro e w7 ⟨rfl, hW7, hb7⟩
          have HW7 : Hid (Ws w.heap.size w7 N (i + 1)) := hW7
          have HB7 : Hid (Below w.heap.size w w7) := HB.out.trans hb7
          clear hW7 hb7 hSt s0 s1 s2 s3 s4 s5 s6 s7
          go_wp2
          exact ⟨⟨i + 1, by simp, by omega, HW7.out, HB7.out⟩, by simp [intOf]; omega⟩

end Go.Proofs.Ytnclfoljfnfglai

namespace Go.Proofs.Ytnclfoljfnfglai.timersPlays
open Go.ChangeShapes Go.WideShapes Go.ChangeAt Go.RowKit
set_option linter.unusedVariables false

set_option maxRecDepth 100000 in
theorem lifted (os : Os) (started : os.Started) (H : Type) (enc : TypeId × Value → H) :
    ReturnsInHanded {} Try.checked os 7 .any (Rows.timersPlaysSpec.pre6 enc Try.prog Try.f7 Rows.timersPlaysRow.domain false) (Rows.timersPlaysSpec.post enc Try.prog Try.f7 false true false false) := by
  refine returnsInHanded_of_change_sized (C := Try.checked) own started (by kernel_rfl) Try.func7
    (ChangeSpec.witness6 (enc := enc) (C := Try.checked) false ⟨#[], #[.slice none 0 0], []⟩ 8 (by kernel_rfl) (by kernel_rfl) (by kernel_rfl) (by kernel_rfl)) ?_
  intro W base args ds gs before hval0 hW hcnd hsz0 _
  have hsz : (DataW.weightsEach Try.prog (Try.f7.params.toList ++ Rows.timersPlaysSpec.plain.varTypes Try.prog) (ds ++ gs)).all (· ≤ reachBytes) = true := hsz0
  have hval : ∀ (j : Nat) t v, Try.f7.params[j]? = some t → args[j]? = some v → Value.okWide Try.prog W .any base t v := hval0
  have hW' := hW
  obtain ⟨p, q, hA0, hV, rfl, hfz, hnd⟩ := hW
  have hA : DataW.TrodAll enc Try.prog W 0 (fun _ => true) true Try.f7.params.toList args.toList ds p := hA0
  rw [Try.params7] at hA hval hsz
  obtain ⟨v0, vs0, d0, ds0, p0, q0, hargs, rfl, rfl, h0, r0⟩ := trodAll_cons hA
  obtain ⟨rfl, rfl, rfl⟩ := trodAll_nil r0
  obtain rfl : args = #[v0] := by cases args; simp_all
  obtain ⟨rfl, rfl⟩ := trodVars_none hV
  have lt0 : ∀ x ∈ p0, x.block < W.heap.size := by obtain ⟨m, hm⟩ := h0; exact DataW.trod_lt m _ _ _ hm
  obtain ⟨a0, l0, len0, cap0, rfl, el0, ri0, rb0, hn0⟩ := given_ops (hval 0 36 v0 rfl rfl) h0 (pl_all_of_mem hsz (DataW.weights_mem_each (j := 0) rfl rfl))
  subst el0
  clear hA0 hval0
  refine (plays_walk a0 l0 cap0 W ri0 rb0 hn0).mono fun e W' ⟨he, bel⟩ => ?_
  subst he
  exact ⟨_, rfl, _, _, _, [], _, [], hW', trodAll_mk1 (shut_bool Try.underlying4 _), (trodAll_cons_mk (Below.trod laidOut (by kernel_rfl) (of_decide_eq_true (by kernel_rfl)) h0 bel lt0) trodAll_mk0), rfl, bel.frame _, fun h => by cases h⟩

end Go.Proofs.Ytnclfoljfnfglai.timersPlays

namespace Go.Proofs.Ytnclfoljfnfglai

theorem timersPlays_proved : Rows.TimersPlaysSaid :=
  OpenClaim.holds_of_wide 7 Try.f7 rfl rfl rfl rfl rfl rfl rfl ⟨rfl, rfl, rfl, rfl, rfl⟩ rfl rfl rfl rfl rfl (by kernel_rfl) Try.func7 (by kernel_rfl)
    (of_decide_eq_true (by kernel_rfl)) (by unfold Func.isWrapper; first | (rw [if_pos (by decide +kernel)]; kernel_rfl) | (rw [if_neg (by decide +kernel)]; exact ⟨rfl, rfl⟩))
    (fun os started H enc _ => timersPlays.lifted os started H enc)
#print axioms timersPlays_proved

end Go.Proofs.Ytnclfoljfnfglai
