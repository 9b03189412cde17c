import Derived.Test.YtnclfoljfnfglaiTmStA
import Derived.Test.YtnclfoljfnfglaiTmStD
import Derived.Deep.RegionHeld3
namespace Go.Proofs.Ytnclfoljfnfglai
open Go.RowKit Go.Maps
set_option linter.unusedVariables false

theorem step_any (base pw b : Nat) (x : Opx) (w : World) (h : Ws base w pw b) (hb : b + 8 < 2199023255552) (hx : opOk x) :
    Calls Try.prog 21 #[.pointer (some ⟨pw, 0, none⟩), .agg (opV x).toArray] w fun e w' => e = .returned (.bool true) ∧ Ws base w' pw (b + 1) ∧ Below base w w' := by
  by_cases h1 : x.1 = 1
  · by_cases hm : mayK x.2.2.1
    · by_cases hn : 1 ≤ x.2.2.2 ∧ x.2.2.2 ≤ 1048576
      · exact step_start_ok base pw b x w h hb hx hm hn h1
      · exact step_start_tick base pw b x w h hb hx hm hn h1
    · exact step_start_key base pw b x w h hb hx hm h1
  by_cases h2 : x.1 = 2
  · exact step_stop base pw b x w h hb hx h2
  by_cases h3 : x.1 = 3
  · exact step_drop base pw b x w h hb hx h3
  by_cases h4 : x.1 = 4
  · exact step_hold base pw b x w h hb hx h4
  by_cases h5 : x.1 = 5
  · exact step_go base pw b x w h hb hx h5
  by_cases h6 : x.1 = 6
  · exact step_tick base pw b x w h hb hx h6
  by_cases h7 : x.1 = 7
  · exact step_left base pw b x w h hb hx h7
  by_cases h8 : x.1 = 8
  · exact step_count base pw b x w h hb hx h8
  exact step_other base pw b x w h hb hx ⟨h1, h2, h3, h4, h5, h6, h7, h8⟩

set_option maxHeartbeats 8000000 in
set_option maxRecDepth 100000 in
theorem all_any (base pw b : Nat) (k : Bool) (w : World) (h : Ws base w pw b) (hb : b + 8 < 2199023255552) :
    Calls Try.prog 22 #[.pointer (some ⟨pw, 0, none⟩), .int .i64 (if k = true then 1 else 0)] w fun e w' => e = .returned (.bool true) ∧ Below w.heap.size w w' := by
  obtain ⟨own, T, vo, vw, os, ws, ls, hW, hR, hl, hls, h0, hbs⟩ := h
  have hRl := hR k
  have hTb := hW.tb k
  have hRf := hW.rf k
  have hbx := hW.box
  have hC1 := count10_any _ _ _ _ _ w hTb
  have hC2 := count2_any _ _ _ _ w hRf
  rw [hRl.perm.length_eq.symm] at hC1
  obtain ⟨vl, vh, h1, h2, _⟩ := hRf.ex
  obtain ⟨al, cl, rfl⟩ := h2.shape
  obtain ⟨m, hm⟩ : ∃ m, (T k).R.length = m := ⟨_, rfl⟩
  have HM : Hid ((T k).R.length = m ∧ m ≤ b) := ⟨hm, by have := hRl.ln; omega⟩
  rw [hm] at h1 h2 hC1 hC2
  have HC : Hid (∀ (wr : World) x c (i : Nat), (T k).R[i]? = some (x, c) → Below w.heap.size w wr → Calls Try.prog 34 #[.pointer (some ⟨(T k).p, 0, none⟩), kA x] wr fun e w' => e = .returned (.tuple #[.int .i64 c, .bool true]) ∧ Below wr.heap.size wr w') := fun wr x c i hx hbr => by
    have hmem := List.mem_of_getElem? hx
    have hT : Tb wr (T k).p (T k).bl (T k).bh (T k).L (T k).H := hTb.keep (S := fun _ => False) (Kq.of_below hbr) (fun h => h) (fun h => h) (fun h => h)
    refine (left10_any _ _ _ _ _ x wr hT (hRl.kw _ hmem)).mono ?_
    rintro e w' ⟨rfl, hb'⟩
    refine ⟨?_, hb'⟩
    rw [hRl.lft, hRl.key, lft_in hRl.rise.nd hmem, decide_eq_true (List.mem_map.mpr ⟨_, hmem, rfl⟩)]
  have HT2 : Hid (TR w ((T k).r + 1) (.slice al m cl) (T k).R) := h2
  have g5 : w.cell? ⟨(T k).r, 0, none⟩ = some (.slice al m cl) := by simp [World.cell?, h1]
  have e0 : w.cell? ⟨pw, 0, none⟩ = some (.pointer (some ⟨(T false).p, 0, none⟩)) := by simp [World.cell?, hbx]
  have e1 : w.cell? ⟨pw, 1, none⟩ = some (.pointer (some ⟨(T true).p, 0, none⟩)) := by simp [World.cell?, hbx]
  have e2 : w.cell? ⟨pw, 2, none⟩ = some (.pointer (some ⟨(T false).r, 0, none⟩)) := by simp [World.cell?, hbx]
  have e3 : w.cell? ⟨pw, 3, none⟩ = some (.pointer (some ⟨(T true).r, 0, none⟩)) := by simp [World.cell?, hbx]
  have HE : Hid ((if k = true then w.cell? ⟨pw, 1, none⟩ = some (.pointer (some ⟨(T k).p, 0, none⟩)) ∧ w.cell? ⟨pw, 3, none⟩ = some (.pointer (some ⟨(T k).r, 0, none⟩)) else w.cell? ⟨pw, 0, none⟩ = some (.pointer (some ⟨(T k).p, 0, none⟩)) ∧ w.cell? ⟨pw, 2, none⟩ = some (.pointer (some ⟨(T k).r, 0, none⟩)))) := by
    cases k
    · exact ⟨e0, e2⟩
    · exact ⟨e1, e3⟩
  obtain ⟨R, hRe⟩ : ∃ R, (T k).R = R := ⟨_, rfl⟩
  obtain ⟨P, hP⟩ : ∃ P, (T k).p = P := ⟨_, rfl⟩
  obtain ⟨Q, hQ⟩ : ∃ P, (T k).r = P := ⟨_, rfl⟩
  rw [hP, hQ] at HE
  rw [hP] at hC1
  rw [hQ] at hC2 g5
  rw [hP, hRe] at HC
  rw [hRe, hQ] at HT2
  rw [hRe] at HM
  have HG5 : Hid (w.cell? ⟨Q, 0, none⟩ = some (.slice al m cl)) := g5
  clear hW hR hl hls h0 hbs hRl hTb hRf hbx h1 h2 hm e0 e1 e2 e3 hP hQ hRe g5
  cases k with
  | false =>
    have hE := HE.out
    rw [if_neg Bool.false_ne_true] at hE ⊢
    obtain ⟨f0, f1⟩ := hE
    have HF : Hid _ := f0
    have HF1 : Hid _ := f1
    clear HE
    go_enter Try.func22, Try.ntmps22
    go_wp2_with fail
    refine hC1.mono ?_
    rintro e w1 ⟨rfl, hw1⟩
    rw [hw1]
    clear hw1 w1 hC1
    go_wp2_with fail
    refine hC2.mono ?_
    rintro e w1 ⟨rfl, hw1⟩
    rw [hw1]
    clear hw1 w1 hC2
    go_wp2
    go_loopw [6] (fun v wr => ∃ i : Nat, v = .int .i64 i ∧ i ≤ m ∧ Below w.heap.size w wr) (fun v _ => m - (intOf v).toNat)
    case atStart => exact ⟨0, rfl, by omega, Below.refl _ _⟩
    case round =>
      obtain ⟨i, rfl, hi, hbr⟩ := hrel
      have HBr : Hid (Below w.heap.size w wr) := hbr
      clear hbr f0 f1
      have f0 := tm_cell HF.out HBr.out
      have f1 := tm_cell HF1.out HBr.out
      have g5 := tm_cell HG5.out HBr.out
      by_cases him : i = m
      · subst him
        have hz : ¬ (i : Int) < (i : Int) := by omega
        go_wp2
        go_ret
        exact ⟨rfl, HBr.out⟩
      · have hz : (i : Int) < (m : Int) := by omega
        have hwi : IntKind.i64.wrap ((i : Int) + 1) = (i : Int) + 1 := by have := HM.out.2; rw [IntKind.wrap_i64]; omega
        obtain ⟨⟨x, c⟩, hx⟩ : ∃ x, R[i]? = some x := ⟨_, List.getElem?_eq_getElem (by rw [HM.out.1]; omega)⟩
        obtain ⟨gk, capk, ek, _, _⟩ := HT2.out.some (by rw [HM.out.1]; omega)
        obtain ⟨rfl, hmm, rfl⟩ : al = some ⟨gk, 0, none⟩ ∧ m = R.length ∧ cl = capk := by simpa using ek
        obtain ⟨q0, q1, q2, q3, q4, q5⟩ := HT2.out.cells hx
        obtain ⟨x0, x1, x2, x3, x4⟩ := x
        simp only at q0 q1 q2 q3 q4 q5
        have p0 := tm_cell q0 HBr.out
        have p1 := tm_cell q1 HBr.out
        have p2 := tm_cell q2 HBr.out
        have p3 := tm_cell q3 HBr.out
        have p4 := tm_cell q4 HBr.out
        have p5 := tm_cell q5 HBr.out
        clear q0 q1 q2 q3 q4 q5
        obtain ⟨X, hX⟩ : ∃ X, wr.alloc (.cells #[.int .i64 x0, .int .i64 x1, .int .i64 x2, .int .i64 x3, .int .i64 x4, .int .i64 c] 90) = X := ⟨_, rfl⟩
        have HBX : Hid (Below wr.heap.size wr X) := by show Below _ _ _; rw [← hX]; exact (Below.refl _ _).alloc (Nat.le_refl _) _
        have r0 := tm_cell f0 HBX.out
        have s0 : X.cell? ⟨wr.heap.size, 0, none⟩ = some (.int .i64 x0) := by rw [← hX]; simp
        have s1 : X.cell? ⟨wr.heap.size, 1, none⟩ = some (.int .i64 x1) := by rw [← hX]; simp
        have s2 : X.cell? ⟨wr.heap.size, 2, none⟩ = some (.int .i64 x2) := by rw [← hX]; simp
        have s3 : X.cell? ⟨wr.heap.size, 3, none⟩ = some (.int .i64 x3) := by rw [← hX]; simp
        have s4 : X.cell? ⟨wr.heap.size, 4, none⟩ = some (.int .i64 x4) := by rw [← hX]; simp
        have s5 : X.cell? ⟨wr.heap.size, 5, none⟩ = some (.int .i64 c) := by rw [← hX]; simp
        have hbX : Below w.heap.size w X.drew := below_up HBr.out ⟨HBX.out.os, HBX.out.tape, HBX.out.output, HBX.out.size, HBX.out.block⟩
        have hLf := HC.out X.drew (x0, x1, x2, x3, x4) c i hx hbX
        have HBX3 : Hid (Below w.heap.size w X) := below_up HBr.out HBX.out
        have HX : Hid (wr.alloc (.cells #[.int .i64 x0, .int .i64 x1, .int .i64 x2, .int .i64 x3, .int .i64 x4, .int .i64 c] 90) = X) := hX
        clear hx ek hmm hbX
        go_wp2_with fail
        go_region_held3 (fun V => V.cell? ⟨pw, 0, none⟩ = some (.pointer (some ⟨P, 0, none⟩)) ∧ V.cell? ⟨wr.heap.size, 0, none⟩ = some (.int .i64 x0) ∧ V.cell? ⟨wr.heap.size, 1, none⟩ = some (.int .i64 x1) ∧ V.cell? ⟨wr.heap.size, 2, none⟩ = some (.int .i64 x2) ∧ V.cell? ⟨wr.heap.size, 3, none⟩ = some (.int .i64 x3) ∧ V.cell? ⟨wr.heap.size, 4, none⟩ = some (.int .i64 x4) ∧ Below X.heap.size X V)
          (first | (exact ⟨t0, y0, y1, y2, y3, y4, hV3⟩) | (exact ⟨r0, s0, s1, s2, s3, s4, Below.refl _ _⟩) | (exact ⟨r0, s0, s1, s2, s3, s4, (Below.refl _ _).drew⟩))
          (first
            | (go_at_call 34
               refine hLf.mono ?_
               rintro e w3 ⟨rfl, hb3⟩
               have hV3 : Below X.heap.size X w3 := (Below.refl _ _).drew.trans hb3
               have t0 := tm_cell r0 hV3
               have y0 := tm_cell s0 hV3
               have y1 := tm_cell s1 hV3
               have y2 := tm_cell s2 hV3
               have y3 := tm_cell s3 hV3
               have y4 := tm_cell s4 hV3
               clear hb3))
        all_goals (
          have z5 := tm_cell s5 hV3
          have HB3 : Hid (Below w.heap.size w w3) := below_up HBX3.out hV3
          clear p0 p1 p2 p3 p4 p5 f0 f1 g5 r0 s0 s1 s2 s3 s4 s5 t0 y0 y1 y2 y3 y4 hV3 hLf
          go_wp2
          exact ⟨⟨i + 1, by simp, by omega, HB3.out⟩, by simp [intOf]; omega⟩)
  | true =>
    have hE := HE.out
    rw [if_pos rfl] at hE ⊢
    obtain ⟨f0, f1⟩ := hE
    have HF : Hid _ := f0
    have HF1 : Hid _ := f1
    clear HE
    go_enter Try.func22, Try.ntmps22
    go_wp2_with fail
    refine hC1.mono ?_
    rintro e w1 ⟨rfl, hw1⟩
    rw [hw1]
    clear hw1 w1 hC1
    go_wp2_with fail
    refine hC2.mono ?_
    rintro e w1 ⟨rfl, hw1⟩
    rw [hw1]
    clear hw1 w1 hC2
    go_wp2
    go_loopw [6] (fun v wr => ∃ i : Nat, v = .int .i64 i ∧ i ≤ m ∧ Below w.heap.size w wr) (fun v _ => m - (intOf v).toNat)
    case atStart => exact ⟨0, rfl, by omega, Below.refl _ _⟩
    case round =>
      obtain ⟨i, rfl, hi, hbr⟩ := hrel
      have HBr : Hid (Below w.heap.size w wr) := hbr
      clear hbr f0 f1
      have f0 := tm_cell HF.out HBr.out
      have f1 := tm_cell HF1.out HBr.out
      have g5 := tm_cell HG5.out HBr.out
      by_cases him : i = m
      · subst him
        have hz : ¬ (i : Int) < (i : Int) := by omega
        go_wp2
        go_ret
        exact ⟨rfl, HBr.out⟩
      · have hz : (i : Int) < (m : Int) := by omega
        have hwi : IntKind.i64.wrap ((i : Int) + 1) = (i : Int) + 1 := by have := HM.out.2; rw [IntKind.wrap_i64]; omega
        obtain ⟨⟨x, c⟩, hx⟩ : ∃ x, R[i]? = some x := ⟨_, List.getElem?_eq_getElem (by rw [HM.out.1]; omega)⟩
        obtain ⟨gk, capk, ek, _, _⟩ := HT2.out.some (by rw [HM.out.1]; omega)
        obtain ⟨rfl, hmm, rfl⟩ : al = some ⟨gk, 0, none⟩ ∧ m = R.length ∧ cl = capk := by simpa using ek
        obtain ⟨q0, q1, q2, q3, q4, q5⟩ := HT2.out.cells hx
        obtain ⟨x0, x1, x2, x3, x4⟩ := x
        simp only at q0 q1 q2 q3 q4 q5
        have p0 := tm_cell q0 HBr.out
        have p1 := tm_cell q1 HBr.out
        have p2 := tm_cell q2 HBr.out
        have p3 := tm_cell q3 HBr.out
        have p4 := tm_cell q4 HBr.out
        have p5 := tm_cell q5 HBr.out
        clear q0 q1 q2 q3 q4 q5
        obtain ⟨X, hX⟩ : ∃ X, wr.alloc (.cells #[.int .i64 x0, .int .i64 x1, .int .i64 x2, .int .i64 x3, .int .i64 x4, .int .i64 c] 90) = X := ⟨_, rfl⟩
        have HBX : Hid (Below wr.heap.size wr X) := by show Below _ _ _; rw [← hX]; exact (Below.refl _ _).alloc (Nat.le_refl _) _
        have r0 := tm_cell f0 HBX.out
        have s0 : X.cell? ⟨wr.heap.size, 0, none⟩ = some (.int .i64 x0) := by rw [← hX]; simp
        have s1 : X.cell? ⟨wr.heap.size, 1, none⟩ = some (.int .i64 x1) := by rw [← hX]; simp
        have s2 : X.cell? ⟨wr.heap.size, 2, none⟩ = some (.int .i64 x2) := by rw [← hX]; simp
        have s3 : X.cell? ⟨wr.heap.size, 3, none⟩ = some (.int .i64 x3) := by rw [← hX]; simp
        have s4 : X.cell? ⟨wr.heap.size, 4, none⟩ = some (.int .i64 x4) := by rw [← hX]; simp
        have s5 : X.cell? ⟨wr.heap.size, 5, none⟩ = some (.int .i64 c) := by rw [← hX]; simp
        have hbX : Below w.heap.size w X.drew := below_up HBr.out ⟨HBX.out.os, HBX.out.tape, HBX.out.output, HBX.out.size, HBX.out.block⟩
        have hLf := HC.out X.drew (x0, x1, x2, x3, x4) c i hx hbX
        have HBX3 : Hid (Below w.heap.size w X) := below_up HBr.out HBX.out
        have HX : Hid (wr.alloc (.cells #[.int .i64 x0, .int .i64 x1, .int .i64 x2, .int .i64 x3, .int .i64 x4, .int .i64 c] 90) = X) := hX
        clear hx ek hmm hbX
        go_wp2_with fail
        go_region_held3 (fun V => V.cell? ⟨pw, 1, none⟩ = some (.pointer (some ⟨P, 0, none⟩)) ∧ V.cell? ⟨wr.heap.size, 0, none⟩ = some (.int .i64 x0) ∧ V.cell? ⟨wr.heap.size, 1, none⟩ = some (.int .i64 x1) ∧ V.cell? ⟨wr.heap.size, 2, none⟩ = some (.int .i64 x2) ∧ V.cell? ⟨wr.heap.size, 3, none⟩ = some (.int .i64 x3) ∧ V.cell? ⟨wr.heap.size, 4, none⟩ = some (.int .i64 x4) ∧ Below X.heap.size X V)
          (first | (exact ⟨t0, y0, y1, y2, y3, y4, hV3⟩) | (exact ⟨r0, s0, s1, s2, s3, s4, Below.refl _ _⟩) | (exact ⟨r0, s0, s1, s2, s3, s4, (Below.refl _ _).drew⟩))
          (first
            | (go_at_call 34
               refine hLf.mono ?_
               rintro e w3 ⟨rfl, hb3⟩
               have hV3 : Below X.heap.size X w3 := (Below.refl _ _).drew.trans hb3
               have t0 := tm_cell r0 hV3
               have y0 := tm_cell s0 hV3
               have y1 := tm_cell s1 hV3
               have y2 := tm_cell s2 hV3
               have y3 := tm_cell s3 hV3
               have y4 := tm_cell s4 hV3
               clear hb3))
        all_goals (
          have z5 := tm_cell s5 hV3
          have HB3 : Hid (Below w.heap.size w w3) := below_up HBX3.out hV3
          clear p0 p1 p2 p3 p4 p5 f0 f1 g5 r0 s0 s1 s2 s3 s4 s5 t0 y0 y1 y2 y3 y4 hV3 hLf
          go_wp2
          exact ⟨⟨i + 1, by simp, by omega, HB3.out⟩, by simp [intOf]; omega⟩)

end Go.Proofs.Ytnclfoljfnfglai
