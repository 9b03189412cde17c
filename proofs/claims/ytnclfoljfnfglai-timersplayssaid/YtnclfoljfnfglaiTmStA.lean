import Derived.Test.YtnclfoljfnfglaiTmWs
import Derived.Test.YtnclfoljfnfglaiTmGo
namespace Go.Proofs.Ytnclfoljfnfglai
open Go.RowKit Go.Maps
set_option linter.unusedVariables false

set_option maxHeartbeats 8000000 in
set_option maxRecDepth 100000 in
theorem step_start_key (base pw b : Nat) (x : Opx) (w : World) (h : Ws base w pw b) (hb : b + 8 < 2199023255552) (hx : opOk x) (hm : ¬ mayK x.2.2.1) (hkd : x.1 = 1) :
    Calls Try.prog 21 #[.pointer (some ⟨pw, 0, none⟩), .agg (opV x).toArray] w fun e w' => e = .returned (.bool true) ∧ Ws base w' pw (b + 1) ∧ Below base w w' := by
  have HWs : Hid (Ws base w pw b) := h
  obtain ⟨own, T, vo, vw, os, ws, ls, hW, hR, hl, hls, h0, hbs⟩ := h
  obtain ⟨kd, k, ⟨k0, k1, k2, k3, k4⟩, n⟩ := x
  obtain ⟨ok1, ok2, ok3⟩ := hx
  simp only at hkd ok1 ok2 ok3
  subst hkd
  obtain ⟨W, hWe⟩ : ∃ W, w.alloc (.cells #[.int .i64 1, .bool k, .int .i64 k0, .int .i64 k1, .int .i64 k2, .int .i64 k3, .int .i64 k4, .int .i64 n] 53) = W := ⟨_, rfl⟩
  have hbW : Below w.heap.size w W := by rw [← hWe]; exact (Below.refl _ _).alloc (Nat.le_refl _) _
  have hWW := hW.same hbW
  obtain ⟨gx, hgx⟩ : ∃ g, w.heap.size = g := ⟨_, rfl⟩
  have hgW : gx < W.heap.size := by rw [← hgx, ← hWe]; simp
  have c0 : W.cell? ⟨gx, 0, none⟩ = some (.int .i64 1) := by rw [← hWe, ← hgx]; simp
  have c1 : W.cell? ⟨gx, 1, none⟩ = some (.bool k) := by rw [← hWe, ← hgx]; simp
  have c2 : W.cell? ⟨gx, 2, none⟩ = some (.int .i64 k0) := by rw [← hWe, ← hgx]; simp
  have c3 : W.cell? ⟨gx, 3, none⟩ = some (.int .i64 k1) := by rw [← hWe, ← hgx]; simp
  have c4 : W.cell? ⟨gx, 4, none⟩ = some (.int .i64 k2) := by rw [← hWe, ← hgx]; simp
  have c5 : W.cell? ⟨gx, 5, none⟩ = some (.int .i64 k3) := by rw [← hWe, ← hgx]; simp
  have c6 : W.cell? ⟨gx, 6, none⟩ = some (.int .i64 k4) := by rw [← hWe, ← hgx]; simp
  have c7 : W.cell? ⟨gx, 7, none⟩ = some (.int .i64 n) := by rw [← hWe, ← hgx]; simp
  have HWo : Hid (Wo own W pw T vo vw os ws ls ls) := hWW
  have HBW : Hid (Below w.heap.size w W) := hbW
  have HBB : Hid (Below base w W) := below_dn hbW hbs
  have HR : Hid (∀ j, Rel (T j).L (T j).R (T j).H (T j).Hr b) := hR
  have HL : Hid (ls.length ≤ b ∧ ∀ l ∈ ls, l.length ≤ b ∧ ∀ y ∈ l, kW y) := ⟨hl, hls⟩
  have H0 : Hid ((∀ g, g < base → own g = 0) ∧ base ≤ W.heap.size ∧ base ≤ w.heap.size) := ⟨h0, Nat.le_trans hbs hbW.size, hbs⟩
  have HLt : Hid (∀ j, gx ≠ (T j).p ∧ gx ≠ (T j).bl ∧ gx ≠ (T j).bh ∧ gx ≠ (T j).r) := fun j => by
    have h1 := (hW.tb j).lts
    have h2 := (hW.rf j).lt
    omega
  have hbx := hWW.box
  have hpw := hWW.ltw
  have HGx : Hid (w.heap.size = gx ∧ w.alloc (.cells #[.int .i64 1, .bool k, .int .i64 k0, .int .i64 k1, .int .i64 k2, .int .i64 k3, .int .i64 k4, .int .i64 n] 53) = W) := ⟨hgx, hWe⟩
  have e0 : W.cell? ⟨pw, 0, none⟩ = some (.pointer (some ⟨(T false).p, 0, none⟩)) := by simp [World.cell?, hbx]
  have e1 : W.cell? ⟨pw, 1, none⟩ = some (.pointer (some ⟨(T true).p, 0, none⟩)) := by simp [World.cell?, hbx]
  have e2 : W.cell? ⟨pw, 2, none⟩ = some (.pointer (some ⟨(T false).r, 0, none⟩)) := by simp [World.cell?, hbx]
  have e3 : W.cell? ⟨pw, 3, none⟩ = some (.pointer (some ⟨(T true).r, 0, none⟩)) := by simp [World.cell?, hbx]
  have HE : Hid ((if k = true then W.cell? ⟨pw, 1, none⟩ = some (.pointer (some ⟨(T k).p, 0, none⟩)) ∧ W.cell? ⟨pw, 3, none⟩ = some (.pointer (some ⟨(T k).r, 0, none⟩)) else W.cell? ⟨pw, 0, none⟩ = some (.pointer (some ⟨(T k).p, 0, none⟩)) ∧ W.cell? ⟨pw, 2, none⟩ = some (.pointer (some ⟨(T k).r, 0, none⟩)))) := by
    cases k
    · exact ⟨e0, e2⟩
    · exact ⟨e1, e3⟩
  clear hW hWW hbW hl hls h0 hbs hbx e0 e1 e2 e3 hgx hWe hR
  simp only at hm
  have hC : Calls Try.prog 26 #[.pointer (some ⟨(T k).p, 0, none⟩), kA (k0, k1, k2, k3, k4), .int .i64 n] W fun e w1 => e = .returned (.int .i64 100) ∧ Hid (∀ i u, W.cell? ⟨gx, i, none⟩ = some u → w1.cell? ⟨gx, i, none⟩ = some u) ∧ Hid (Calls Try.prog 42 #[.pointer (some ⟨(T k).r, 0, none⟩), kA (k0, k1, k2, k3, k4), .int .i64 n] w1 fun e w2 => e = .returned (.int .i64 100) ∧ Ws base w2 pw (b + 1) ∧ Below base w w2) := by
    have hTb := HWo.out.tb k
    have hRl := HR.out k
    have hln := hRl.lnL
    have hl1 := hRl.ln
    have hl2 := hRl.lh
    have hl3 := hRl.ls
    refine (start10_key (T k).p (k0, k1, k2, k3, k4) n W hm).mono ?_
    rintro e w1 ⟨rfl, hb1⟩
    refine ⟨rfl, fun i u hu => tm_cell hu hb1, ?_⟩
    refine (start2_key (T k).r (k0, k1, k2, k3, k4) n w1 hm).mono ?_
    rintro e w2 ⟨rfl, hb2⟩
    have hb3 := below_up HBW.out (below_up hb1 hb2)
    exact ⟨rfl, HWs.out.same hb3, below_dn hb3 H0.out.2.2⟩
  obtain ⟨P, hP⟩ : ∃ P, (T k).p = P := ⟨_, rfl⟩
  obtain ⟨Q, hQ⟩ : ∃ P, (T k).r = P := ⟨_, rfl⟩
  rw [hP, hQ] at HE
  rw [hP, hQ] at hC
  clear hP hQ
  rw [show (opV (1, k, (k0, k1, k2, k3, k4), n)).toArray = #[.int .i64 1, .bool k, .int .i64 k0, .int .i64 k1, .int .i64 k2, .int .i64 k3, .int .i64 k4, .int .i64 n] from rfl]
  cases k <;>
  · have hE := HE.out
    simp only [if_true, Bool.false_eq_true, reduceIte] at hE
    obtain ⟨f0, f1⟩ := hE
    clear HE
    go_enter Try.func21, Try.ntmps21
    have hWg := HGx.out.2
    have hGg := HGx.out.1
    go_wp2_with fail
    refine hC.mono ?_
    rintro e w1 ⟨rfl, hKc, hN⟩
    have y2 := hKc.out 2 _ c2
    have y3 := hKc.out 3 _ c3
    have y4 := hKc.out 4 _ c4
    have y5 := hKc.out 5 _ c5
    have y6 := hKc.out 6 _ c6
    have y7 := hKc.out 7 _ c7
    clear c0 c1 c2 c3 c4 c5 c6 c7 f0 f1 hWg hGg hC
    go_wp2_with fail
    refine hN.out.mono ?_
    rintro e w2 ⟨rfl, hW2, hB2⟩
    have HW2 : Hid (Ws base w2 pw (b + 1)) := hW2
    have HB2 : Hid (Below base w w2) := hB2
    clear hW2 hB2 y2 y3 y4 y5 y6 y7 hN hKc
    go_wp2
    go_ret
    exact ⟨rfl, HW2.out, HB2.out⟩

set_option maxHeartbeats 8000000 in
set_option maxRecDepth 100000 in
theorem step_start_tick (base pw b : Nat) (x : Opx) (w : World) (h : Ws base w pw b) (hb : b + 8 < 2199023255552) (hx : opOk x) (hm : mayK x.2.2.1) (hn : ¬ (1 ≤ x.2.2.2 ∧ x.2.2.2 ≤ 1048576)) (hkd : x.1 = 1) :
    Calls Try.prog 21 #[.pointer (some ⟨pw, 0, none⟩), .agg (opV x).toArray] w fun e w' => e = .returned (.bool true) ∧ Ws base w' pw (b + 1) ∧ Below base w w' := by
  have HWs : Hid (Ws base w pw b) := h
  obtain ⟨own, T, vo, vw, os, ws, ls, hW, hR, hl, hls, h0, hbs⟩ := h
  obtain ⟨kd, k, ⟨k0, k1, k2, k3, k4⟩, n⟩ := x
  obtain ⟨ok1, ok2, ok3⟩ := hx
  simp only at hkd ok1 ok2 ok3
  subst hkd
  obtain ⟨W, hWe⟩ : ∃ W, w.alloc (.cells #[.int .i64 1, .bool k, .int .i64 k0, .int .i64 k1, .int .i64 k2, .int .i64 k3, .int .i64 k4, .int .i64 n] 53) = W := ⟨_, rfl⟩
  have hbW : Below w.heap.size w W := by rw [← hWe]; exact (Below.refl _ _).alloc (Nat.le_refl _) _
  have hWW := hW.same hbW
  obtain ⟨gx, hgx⟩ : ∃ g, w.heap.size = g := ⟨_, rfl⟩
  have hgW : gx < W.heap.size := by rw [← hgx, ← hWe]; simp
  have c0 : W.cell? ⟨gx, 0, none⟩ = some (.int .i64 1) := by rw [← hWe, ← hgx]; simp
  have c1 : W.cell? ⟨gx, 1, none⟩ = some (.bool k) := by rw [← hWe, ← hgx]; simp
  have c2 : W.cell? ⟨gx, 2, none⟩ = some (.int .i64 k0) := by rw [← hWe, ← hgx]; simp
  have c3 : W.cell? ⟨gx, 3, none⟩ = some (.int .i64 k1) := by rw [← hWe, ← hgx]; simp
  have c4 : W.cell? ⟨gx, 4, none⟩ = some (.int .i64 k2) := by rw [← hWe, ← hgx]; simp
  have c5 : W.cell? ⟨gx, 5, none⟩ = some (.int .i64 k3) := by rw [← hWe, ← hgx]; simp
  have c6 : W.cell? ⟨gx, 6, none⟩ = some (.int .i64 k4) := by rw [← hWe, ← hgx]; simp
  have c7 : W.cell? ⟨gx, 7, none⟩ = some (.int .i64 n) := by rw [← hWe, ← hgx]; simp
  have HWo : Hid (Wo own W pw T vo vw os ws ls ls) := hWW
  have HBW : Hid (Below w.heap.size w W) := hbW
  have HBB : Hid (Below base w W) := below_dn hbW hbs
  have HR : Hid (∀ j, Rel (T j).L (T j).R (T j).H (T j).Hr b) := hR
  have HL : Hid (ls.length ≤ b ∧ ∀ l ∈ ls, l.length ≤ b ∧ ∀ y ∈ l, kW y) := ⟨hl, hls⟩
  have H0 : Hid ((∀ g, g < base → own g = 0) ∧ base ≤ W.heap.size ∧ base ≤ w.heap.size) := ⟨h0, Nat.le_trans hbs hbW.size, hbs⟩
  have HLt : Hid (∀ j, gx ≠ (T j).p ∧ gx ≠ (T j).bl ∧ gx ≠ (T j).bh ∧ gx ≠ (T j).r) := fun j => by
    have h1 := (hW.tb j).lts
    have h2 := (hW.rf j).lt
    omega
  have hbx := hWW.box
  have hpw := hWW.ltw
  have HGx : Hid (w.heap.size = gx ∧ w.alloc (.cells #[.int .i64 1, .bool k, .int .i64 k0, .int .i64 k1, .int .i64 k2, .int .i64 k3, .int .i64 k4, .int .i64 n] 53) = W) := ⟨hgx, hWe⟩
  have e0 : W.cell? ⟨pw, 0, none⟩ = some (.pointer (some ⟨(T false).p, 0, none⟩)) := by simp [World.cell?, hbx]
  have e1 : W.cell? ⟨pw, 1, none⟩ = some (.pointer (some ⟨(T true).p, 0, none⟩)) := by simp [World.cell?, hbx]
  have e2 : W.cell? ⟨pw, 2, none⟩ = some (.pointer (some ⟨(T false).r, 0, none⟩)) := by simp [World.cell?, hbx]
  have e3 : W.cell? ⟨pw, 3, none⟩ = some (.pointer (some ⟨(T true).r, 0, none⟩)) := by simp [World.cell?, hbx]
  have HE : Hid ((if k = true then W.cell? ⟨pw, 1, none⟩ = some (.pointer (some ⟨(T k).p, 0, none⟩)) ∧ W.cell? ⟨pw, 3, none⟩ = some (.pointer (some ⟨(T k).r, 0, none⟩)) else W.cell? ⟨pw, 0, none⟩ = some (.pointer (some ⟨(T k).p, 0, none⟩)) ∧ W.cell? ⟨pw, 2, none⟩ = some (.pointer (some ⟨(T k).r, 0, none⟩)))) := by
    cases k
    · exact ⟨e0, e2⟩
    · exact ⟨e1, e3⟩
  clear hW hWW hbW hl hls h0 hbs hbx e0 e1 e2 e3 hgx hWe hR
  simp only at hm hn
  have hC : Calls Try.prog 26 #[.pointer (some ⟨(T k).p, 0, none⟩), kA (k0, k1, k2, k3, k4), .int .i64 n] W fun e w1 => e = .returned (.int .i64 1) ∧ Hid (∀ i u, W.cell? ⟨gx, i, none⟩ = some u → w1.cell? ⟨gx, i, none⟩ = some u) ∧ Hid (Calls Try.prog 42 #[.pointer (some ⟨(T k).r, 0, none⟩), kA (k0, k1, k2, k3, k4), .int .i64 n] w1 fun e w2 => e = .returned (.int .i64 1) ∧ Ws base w2 pw (b + 1) ∧ Below base w w2) := by
    have hTb := HWo.out.tb k
    have hRl := HR.out k
    have hln := hRl.lnL
    have hl1 := hRl.ln
    have hl2 := hRl.lh
    have hl3 := hRl.ls
    refine (start10_tick (T k).p (k0, k1, k2, k3, k4) n W hm hn).mono ?_
    rintro e w1 ⟨rfl, hb1⟩
    refine ⟨rfl, fun i u hu => tm_cell hu hb1, ?_⟩
    refine (start2_tick (T k).r (k0, k1, k2, k3, k4) n w1 hm hn).mono ?_
    rintro e w2 ⟨rfl, hb2⟩
    have hb3 := below_up HBW.out (below_up hb1 hb2)
    exact ⟨rfl, HWs.out.same hb3, below_dn hb3 H0.out.2.2⟩
  clear hn
  obtain ⟨P, hP⟩ : ∃ P, (T k).p = P := ⟨_, rfl⟩
  obtain ⟨Q, hQ⟩ : ∃ P, (T k).r = P := ⟨_, rfl⟩
  rw [hP, hQ] at HE
  rw [hP, hQ] at hC
  clear hP hQ
  rw [show (opV (1, k, (k0, k1, k2, k3, k4), n)).toArray = #[.int .i64 1, .bool k, .int .i64 k0, .int .i64 k1, .int .i64 k2, .int .i64 k3, .int .i64 k4, .int .i64 n] from rfl]
  cases k <;>
  · have hE := HE.out
    simp only [if_true, Bool.false_eq_true, reduceIte] at hE
    obtain ⟨f0, f1⟩ := hE
    clear HE
    go_enter Try.func21, Try.ntmps21
    have hWg := HGx.out.2
    have hGg := HGx.out.1
    go_wp2_with fail
    refine hC.mono ?_
    rintro e w1 ⟨rfl, hKc, hN⟩
    have y2 := hKc.out 2 _ c2
    have y3 := hKc.out 3 _ c3
    have y4 := hKc.out 4 _ c4
    have y5 := hKc.out 5 _ c5
    have y6 := hKc.out 6 _ c6
    have y7 := hKc.out 7 _ c7
    clear c0 c1 c2 c3 c4 c5 c6 c7 f0 f1 hWg hGg hC
    go_wp2_with fail
    refine hN.out.mono ?_
    rintro e w2 ⟨rfl, hW2, hB2⟩
    have HW2 : Hid (Ws base w2 pw (b + 1)) := hW2
    have HB2 : Hid (Below base w w2) := hB2
    clear hW2 hB2 y2 y3 y4 y5 y6 y7 hN hKc
    go_wp2
    go_ret
    exact ⟨rfl, HW2.out, HB2.out⟩

set_option maxHeartbeats 8000000 in
set_option maxRecDepth 100000 in
theorem step_start_ok (base pw b : Nat) (x : Opx) (w : World) (h : Ws base w pw b) (hb : b + 8 < 2199023255552) (hx : opOk x) (hm : mayK x.2.2.1) (hn : 1 ≤ x.2.2.2 ∧ x.2.2.2 ≤ 1048576) (hkd : x.1 = 1) :
    Calls Try.prog 21 #[.pointer (some ⟨pw, 0, none⟩), .agg (opV x).toArray] w fun e w' => e = .returned (.bool true) ∧ Ws base w' pw (b + 1) ∧ Below base w w' := by
  have HWs : Hid (Ws base w pw b) := h
  obtain ⟨own, T, vo, vw, os, ws, ls, hW, hR, hl, hls, h0, hbs⟩ := h
  obtain ⟨kd, k, ⟨k0, k1, k2, k3, k4⟩, n⟩ := x
  obtain ⟨ok1, ok2, ok3⟩ := hx
  simp only at hkd ok1 ok2 ok3
  subst hkd
  obtain ⟨W, hWe⟩ : ∃ W, w.alloc (.cells #[.int .i64 1, .bool k, .int .i64 k0, .int .i64 k1, .int .i64 k2, .int .i64 k3, .int .i64 k4, .int .i64 n] 53) = W := ⟨_, rfl⟩
  have hbW : Below w.heap.size w W := by rw [← hWe]; exact (Below.refl _ _).alloc (Nat.le_refl _) _
  have hWW := hW.same hbW
  obtain ⟨gx, hgx⟩ : ∃ g, w.heap.size = g := ⟨_, rfl⟩
  have hgW : gx < W.heap.size := by rw [← hgx, ← hWe]; simp
  have c0 : W.cell? ⟨gx, 0, none⟩ = some (.int .i64 1) := by rw [← hWe, ← hgx]; simp
  have c1 : W.cell? ⟨gx, 1, none⟩ = some (.bool k) := by rw [← hWe, ← hgx]; simp
  have c2 : W.cell? ⟨gx, 2, none⟩ = some (.int .i64 k0) := by rw [← hWe, ← hgx]; simp
  have c3 : W.cell? ⟨gx, 3, none⟩ = some (.int .i64 k1) := by rw [← hWe, ← hgx]; simp
  have c4 : W.cell? ⟨gx, 4, none⟩ = some (.int .i64 k2) := by rw [← hWe, ← hgx]; simp
  have c5 : W.cell? ⟨gx, 5, none⟩ = some (.int .i64 k3) := by rw [← hWe, ← hgx]; simp
  have c6 : W.cell? ⟨gx, 6, none⟩ = some (.int .i64 k4) := by rw [← hWe, ← hgx]; simp
  have c7 : W.cell? ⟨gx, 7, none⟩ = some (.int .i64 n) := by rw [← hWe, ← hgx]; simp
  have HWo : Hid (Wo own W pw T vo vw os ws ls ls) := hWW
  have HBW : Hid (Below w.heap.size w W) := hbW
  have HBB : Hid (Below base w W) := below_dn hbW hbs
  have HR : Hid (∀ j, Rel (T j).L (T j).R (T j).H (T j).Hr b) := hR
  have HL : Hid (ls.length ≤ b ∧ ∀ l ∈ ls, l.length ≤ b ∧ ∀ y ∈ l, kW y) := ⟨hl, hls⟩
  have H0 : Hid ((∀ g, g < base → own g = 0) ∧ base ≤ W.heap.size ∧ base ≤ w.heap.size) := ⟨h0, Nat.le_trans hbs hbW.size, hbs⟩
  have HLt : Hid (∀ j, gx ≠ (T j).p ∧ gx ≠ (T j).bl ∧ gx ≠ (T j).bh ∧ gx ≠ (T j).r) := fun j => by
    have h1 := (hW.tb j).lts
    have h2 := (hW.rf j).lt
    omega
  have hbx := hWW.box
  have hpw := hWW.ltw
  have HGx : Hid (w.heap.size = gx ∧ w.alloc (.cells #[.int .i64 1, .bool k, .int .i64 k0, .int .i64 k1, .int .i64 k2, .int .i64 k3, .int .i64 k4, .int .i64 n] 53) = W) := ⟨hgx, hWe⟩
  have e0 : W.cell? ⟨pw, 0, none⟩ = some (.pointer (some ⟨(T false).p, 0, none⟩)) := by simp [World.cell?, hbx]
  have e1 : W.cell? ⟨pw, 1, none⟩ = some (.pointer (some ⟨(T true).p, 0, none⟩)) := by simp [World.cell?, hbx]
  have e2 : W.cell? ⟨pw, 2, none⟩ = some (.pointer (some ⟨(T false).r, 0, none⟩)) := by simp [World.cell?, hbx]
  have e3 : W.cell? ⟨pw, 3, none⟩ = some (.pointer (some ⟨(T true).r, 0, none⟩)) := by simp [World.cell?, hbx]
  have HE : Hid ((if k = true then W.cell? ⟨pw, 1, none⟩ = some (.pointer (some ⟨(T k).p, 0, none⟩)) ∧ W.cell? ⟨pw, 3, none⟩ = some (.pointer (some ⟨(T k).r, 0, none⟩)) else W.cell? ⟨pw, 0, none⟩ = some (.pointer (some ⟨(T k).p, 0, none⟩)) ∧ W.cell? ⟨pw, 2, none⟩ = some (.pointer (some ⟨(T k).r, 0, none⟩)))) := by
    cases k
    · exact ⟨e0, e2⟩
    · exact ⟨e1, e3⟩
  clear hW hWW hbW hl hls h0 hbs hbx e0 e1 e2 e3 hgx hWe hR
  simp only at hm hn
  have hC : Calls Try.prog 26 #[.pointer (some ⟨(T k).p, 0, none⟩), kA (k0, k1, k2, k3, k4), .int .i64 n] W fun e w1 => e = .returned (.int .i64 0) ∧ Hid (∀ i u, W.cell? ⟨gx, i, none⟩ = some u → w1.cell? ⟨gx, i, none⟩ = some u) ∧ Hid (Calls Try.prog 42 #[.pointer (some ⟨(T k).r, 0, none⟩), kA (k0, k1, k2, k3, k4), .int .i64 n] w1 fun e w2 => e = .returned (.int .i64 0) ∧ Ws base w2 pw (b + 1) ∧ Below base w w2) := by
    have hTb := HWo.out.tb k
    have hRl := HR.out k
    have hln := hRl.lnL
    have hl1 := hRl.ln
    have hl2 := hRl.lh
    have hl3 := hRl.ls
    refine (start10_ok (T k).p (T k).bl (T k).bh (T k).L (T k).H (k0, k1, k2, k3, k4) n W hTb hm hn (by omega)).mono ?_
    rintro e w1 ⟨rfl, hT1, hk1⟩
    obtain ⟨own1, W1, o1, _⟩ := HWo.out.prog1 k hk1 (fun g hg _ => by rw [show g = (T k).bl from hg]; exact (HWo.out.ot k).2.1) hT1
    have B1 : Below base W w1 := Kq.bas H0.out.1 H0.out.2.1 hk1 (fun g hg _ => by rw [show g = (T k).bl from hg, (HWo.out.ot k).2.1]; exact tgT_pos k)
    refine ⟨rfl, fun i u hu => (World.cell?_of_block (a := ⟨gx, i, none⟩) (hk1.block gx hgW (HLt.out k).2.1)).trans hu, ?_⟩
    have z1 : ∀ g, g < base → own1 g = 0 := fun g hg => (o1 g (by have := H0.out.2.1; omega)).trans (H0.out.1 g hg)
    have z2 : base ≤ w1.heap.size := Nat.le_trans H0.out.2.1 hk1.size
    have hRf := W1.rfP
    refine (start2_ok (T k).r _ (T k).R (T k).Hr (k0, k1, k2, k3, k4) n w1 hRf (by omega) hRl.kw hm hn hRl.rise.nd).mono ?_
    rintro e w2 ⟨rfl, hR2, hk2⟩
    obtain ⟨own2, W2, o2⟩ := W1.ref1 hk2 hR2
    have B2 : Below base w1 w2 := Kq.bas z1 z2 hk2 (fun g hg _ => by
      rcases hg with hg | hg
      · rw [hg, W1.orP]; exact tgR_pos k
      · rw [hg]; exact tgR_pos k)
    exact ⟨rfl, Ws.after W2 HR.out (hRl.start hm hn) (by have := HL.out.1; omega) (more_ls HL.out.2) (fun g hg => (o2 g (by omega)).trans (z1 g hg)) (Nat.le_trans z2 hk2.size), HBB.out.trans (B1.trans B2)⟩
  clear hn
  obtain ⟨P, hP⟩ : ∃ P, (T k).p = P := ⟨_, rfl⟩
  obtain ⟨Q, hQ⟩ : ∃ P, (T k).r = P := ⟨_, rfl⟩
  rw [hP, hQ] at HE
  rw [hP, hQ] at hC
  clear hP hQ
  rw [show (opV (1, k, (k0, k1, k2, k3, k4), n)).toArray = #[.int .i64 1, .bool k, .int .i64 k0, .int .i64 k1, .int .i64 k2, .int .i64 k3, .int .i64 k4, .int .i64 n] from rfl]
  cases k <;>
  · have hE := HE.out
    simp only [if_true, Bool.false_eq_true, reduceIte] at hE
    obtain ⟨f0, f1⟩ := hE
    clear HE
    go_enter Try.func21, Try.ntmps21
    have hWg := HGx.out.2
    have hGg := HGx.out.1
    go_wp2_with fail
    refine hC.mono ?_
    rintro e w1 ⟨rfl, hKc, hN⟩
    have y2 := hKc.out 2 _ c2
    have y3 := hKc.out 3 _ c3
    have y4 := hKc.out 4 _ c4
    have y5 := hKc.out 5 _ c5
    have y6 := hKc.out 6 _ c6
    have y7 := hKc.out 7 _ c7
    clear c0 c1 c2 c3 c4 c5 c6 c7 f0 f1 hWg hGg hC
    go_wp2_with fail
    refine hN.out.mono ?_
    rintro e w2 ⟨rfl, hW2, hB2⟩
    have HW2 : Hid (Ws base w2 pw (b + 1)) := hW2
    have HB2 : Hid (Below base w w2) := hB2
    clear hW2 hB2 y2 y3 y4 y5 y6 y7 hN hKc
    go_wp2
    go_ret
    exact ⟨rfl, HW2.out, HB2.out⟩

end Go.Proofs.Ytnclfoljfnfglai

namespace Go.Proofs.Ytnclfoljfnfglai
open Go.RowKit Go.Maps
set_option linter.unusedVariables false

set_option maxHeartbeats 8000000 in
set_option maxRecDepth 100000 in
theorem step_stop (base pw b : Nat) (x : Opx) (w : World) (h : Ws base w pw b) (hb : b + 8 < 2199023255552) (hx : opOk x) (hkd : x.1 = 2) :
    Calls Try.prog 21 #[.pointer (some ⟨pw, 0, none⟩), .agg (opV x).toArray] w fun e w' => e = .returned (.bool true) ∧ Ws base w' pw (b + 1) ∧ Below base w w' := by
  have HWs : Hid (Ws base w pw b) := h
  obtain ⟨own, T, vo, vw, os, ws, ls, hW, hR, hl, hls, h0, hbs⟩ := h
  obtain ⟨kd, k, ⟨k0, k1, k2, k3, k4⟩, n⟩ := x
  obtain ⟨ok1, ok2, ok3⟩ := hx
  simp only at hkd ok1 ok2 ok3
  subst hkd
  obtain ⟨W, hWe⟩ : ∃ W, w.alloc (.cells #[.int .i64 2, .bool k, .int .i64 k0, .int .i64 k1, .int .i64 k2, .int .i64 k3, .int .i64 k4, .int .i64 n] 53) = W := ⟨_, rfl⟩
  have hbW : Below w.heap.size w W := by rw [← hWe]; exact (Below.refl _ _).alloc (Nat.le_refl _) _
  have hWW := hW.same hbW
  obtain ⟨gx, hgx⟩ : ∃ g, w.heap.size = g := ⟨_, rfl⟩
  have hgW : gx < W.heap.size := by rw [← hgx, ← hWe]; simp
  have c0 : W.cell? ⟨gx, 0, none⟩ = some (.int .i64 2) := by rw [← hWe, ← hgx]; simp
  have c1 : W.cell? ⟨gx, 1, none⟩ = some (.bool k) := by rw [← hWe, ← hgx]; simp
  have c2 : W.cell? ⟨gx, 2, none⟩ = some (.int .i64 k0) := by rw [← hWe, ← hgx]; simp
  have c3 : W.cell? ⟨gx, 3, none⟩ = some (.int .i64 k1) := by rw [← hWe, ← hgx]; simp
  have c4 : W.cell? ⟨gx, 4, none⟩ = some (.int .i64 k2) := by rw [← hWe, ← hgx]; simp
  have c5 : W.cell? ⟨gx, 5, none⟩ = some (.int .i64 k3) := by rw [← hWe, ← hgx]; simp
  have c6 : W.cell? ⟨gx, 6, none⟩ = some (.int .i64 k4) := by rw [← hWe, ← hgx]; simp
  have c7 : W.cell? ⟨gx, 7, none⟩ = some (.int .i64 n) := by rw [← hWe, ← hgx]; simp
  have HWo : Hid (Wo own W pw T vo vw os ws ls ls) := hWW
  have HBW : Hid (Below w.heap.size w W) := hbW
  have HBB : Hid (Below base w W) := below_dn hbW hbs
  have HR : Hid (∀ j, Rel (T j).L (T j).R (T j).H (T j).Hr b) := hR
  have HL : Hid (ls.length ≤ b ∧ ∀ l ∈ ls, l.length ≤ b ∧ ∀ y ∈ l, kW y) := ⟨hl, hls⟩
  have H0 : Hid ((∀ g, g < base → own g = 0) ∧ base ≤ W.heap.size ∧ base ≤ w.heap.size) := ⟨h0, Nat.le_trans hbs hbW.size, hbs⟩
  have HLt : Hid (∀ j, gx ≠ (T j).p ∧ gx ≠ (T j).bl ∧ gx ≠ (T j).bh ∧ gx ≠ (T j).r) := fun j => by
    have h1 := (hW.tb j).lts
    have h2 := (hW.rf j).lt
    omega
  have hbx := hWW.box
  have hpw := hWW.ltw
  have HGx : Hid (w.heap.size = gx ∧ w.alloc (.cells #[.int .i64 2, .bool k, .int .i64 k0, .int .i64 k1, .int .i64 k2, .int .i64 k3, .int .i64 k4, .int .i64 n] 53) = W) := ⟨hgx, hWe⟩
  have e0 : W.cell? ⟨pw, 0, none⟩ = some (.pointer (some ⟨(T false).p, 0, none⟩)) := by simp [World.cell?, hbx]
  have e1 : W.cell? ⟨pw, 1, none⟩ = some (.pointer (some ⟨(T true).p, 0, none⟩)) := by simp [World.cell?, hbx]
  have e2 : W.cell? ⟨pw, 2, none⟩ = some (.pointer (some ⟨(T false).r, 0, none⟩)) := by simp [World.cell?, hbx]
  have e3 : W.cell? ⟨pw, 3, none⟩ = some (.pointer (some ⟨(T true).r, 0, none⟩)) := by simp [World.cell?, hbx]
  have HE : Hid ((if k = true then W.cell? ⟨pw, 1, none⟩ = some (.pointer (some ⟨(T k).p, 0, none⟩)) ∧ W.cell? ⟨pw, 3, none⟩ = some (.pointer (some ⟨(T k).r, 0, none⟩)) else W.cell? ⟨pw, 0, none⟩ = some (.pointer (some ⟨(T k).p, 0, none⟩)) ∧ W.cell? ⟨pw, 2, none⟩ = some (.pointer (some ⟨(T k).r, 0, none⟩)))) := by
    cases k
    · exact ⟨e0, e2⟩
    · exact ⟨e1, e3⟩
  clear hW hWW hbW hl hls h0 hbs hbx e0 e1 e2 e3 hgx hWe hR
  have hC : Calls Try.prog 43 #[.pointer (some ⟨(T k).p, 0, none⟩), kA (k0, k1, k2, k3, k4)] W fun e w1 => e = .returned (.bool (decide ((k0, k1, k2, k3, k4) ∈ (T k).R.map Prod.fst))) ∧ Hid (∀ i u, W.cell? ⟨gx, i, none⟩ = some u → w1.cell? ⟨gx, i, none⟩ = some u) ∧ Hid (Calls Try.prog 44 #[.pointer (some ⟨(T k).r, 0, none⟩), kA (k0, k1, k2, k3, k4)] w1 fun e w2 => e = .returned (.bool (decide ((k0, k1, k2, k3, k4) ∈ (T k).R.map Prod.fst))) ∧ Ws base w2 pw (b + 1) ∧ Below base w w2) := by
    have hTb := HWo.out.tb k
    have hRl := HR.out k
    have hln := hRl.lnL
    have hl1 := hRl.ln
    have hl2 := hRl.lh
    have hl3 := hRl.ls
    refine (stop10_any (T k).p (T k).bl (T k).bh (T k).L (T k).H (k0, k1, k2, k3, k4) W hTb ok2).mono ?_
    rintro e w1 ⟨rfl, hT1, hk1⟩
    obtain ⟨own1, W1, o1, _⟩ := HWo.out.prog1 k hk1 (fun g hg _ => by rw [show g = (T k).bl from hg]; exact (HWo.out.ot k).2.1) hT1
    have B1 : Below base W w1 := Kq.bas H0.out.1 H0.out.2.1 hk1 (fun g hg _ => by rw [show g = (T k).bl from hg, (HWo.out.ot k).2.1]; exact tgT_pos k)
    refine ⟨by rw [hRl.key], fun i u hu => (World.cell?_of_block (a := ⟨gx, i, none⟩) (hk1.block gx hgW (HLt.out k).2.1)).trans hu, ?_⟩
    have z1 : ∀ g, g < base → own1 g = 0 := fun g hg => (o1 g (by have := H0.out.2.1; omega)).trans (H0.out.1 g hg)
    have z2 : base ≤ w1.heap.size := Nat.le_trans H0.out.2.1 hk1.size
    have hRf := W1.rfP
    refine (stop2_any (T k).r _ (T k).R (T k).Hr (k0, k1, k2, k3, k4) w1 hRf (by omega) hRl.kw ok2 hRl.rise.nd).mono ?_
    rintro e w2 ⟨rfl, hR2, hk2⟩
    obtain ⟨own2, W2, o2⟩ := W1.ref1 hk2 hR2
    have B2 : Below base w1 w2 := Kq.bas z1 z2 hk2 (fun g hg _ => by
      rcases hg with hg | hg
      · rw [hg, W1.orP]; exact tgR_pos k
      · rw [hg]; exact tgR_pos k)
    exact ⟨rfl, Ws.after W2 HR.out ((hRl.stop (k0, k1, k2, k3, k4)).mono (by omega)) (by have := HL.out.1; omega) (more_ls HL.out.2) (fun g hg => (o2 g (by omega)).trans (z1 g hg)) (Nat.le_trans z2 hk2.size), HBB.out.trans (B1.trans B2)⟩
  obtain ⟨B, hB⟩ : ∃ B, decide ((k0, k1, k2, k3, k4) ∈ (T k).R.map Prod.fst) = B := ⟨_, rfl⟩
  rw [hB] at hC
  clear hB
  obtain ⟨P, hP⟩ : ∃ P, (T k).p = P := ⟨_, rfl⟩
  obtain ⟨Q, hQ⟩ : ∃ P, (T k).r = P := ⟨_, rfl⟩
  rw [hP, hQ] at HE
  rw [hP, hQ] at hC
  clear hP hQ
  rw [show (opV (2, k, (k0, k1, k2, k3, k4), n)).toArray = #[.int .i64 2, .bool k, .int .i64 k0, .int .i64 k1, .int .i64 k2, .int .i64 k3, .int .i64 k4, .int .i64 n] from rfl]
  cases k <;>
  · have hE := HE.out
    simp only [if_true, Bool.false_eq_true, reduceIte] at hE
    obtain ⟨f0, f1⟩ := hE
    clear HE
    go_enter Try.func21, Try.ntmps21
    have hWg := HGx.out.2
    have hGg := HGx.out.1
    go_wp2_with fail
    refine hC.mono ?_
    rintro e w1 ⟨rfl, hKc, hN⟩
    have y2 := hKc.out 2 _ c2
    have y3 := hKc.out 3 _ c3
    have y4 := hKc.out 4 _ c4
    have y5 := hKc.out 5 _ c5
    have y6 := hKc.out 6 _ c6
    have y7 := hKc.out 7 _ c7
    clear c0 c1 c2 c3 c4 c5 c6 c7 f0 f1 hWg hGg hC
    go_wp2_with fail
    refine hN.out.mono ?_
    rintro e w2 ⟨rfl, hW2, hB2⟩
    have HW2 : Hid (Ws base w2 pw (b + 1)) := hW2
    have HB2 : Hid (Below base w w2) := hB2
    clear hW2 hB2 y2 y3 y4 y5 y6 y7 hN hKc
    cases B <;>
    · go_wp2
      go_ret
      exact ⟨rfl, HW2.out, HB2.out⟩

set_option maxHeartbeats 8000000 in
set_option maxRecDepth 100000 in
theorem step_drop (base pw b : Nat) (x : Opx) (w : World) (h : Ws base w pw b) (hb : b + 8 < 2199023255552) (hx : opOk x) (hkd : x.1 = 3) :
    Calls Try.prog 21 #[.pointer (some ⟨pw, 0, none⟩), .agg (opV x).toArray] w fun e w' => e = .returned (.bool true) ∧ Ws base w' pw (b + 1) ∧ Below base w w' := by
  have HWs : Hid (Ws base w pw b) := h
  obtain ⟨own, T, vo, vw, os, ws, ls, hW, hR, hl, hls, h0, hbs⟩ := h
  obtain ⟨kd, k, ⟨k0, k1, k2, k3, k4⟩, n⟩ := x
  obtain ⟨ok1, ok2, ok3⟩ := hx
  simp only at hkd ok1 ok2 ok3
  subst hkd
  obtain ⟨W, hWe⟩ : ∃ W, w.alloc (.cells #[.int .i64 3, .bool k, .int .i64 k0, .int .i64 k1, .int .i64 k2, .int .i64 k3, .int .i64 k4, .int .i64 n] 53) = W := ⟨_, rfl⟩
  have hbW : Below w.heap.size w W := by rw [← hWe]; exact (Below.refl _ _).alloc (Nat.le_refl _) _
  have hWW := hW.same hbW
  obtain ⟨gx, hgx⟩ : ∃ g, w.heap.size = g := ⟨_, rfl⟩
  have hgW : gx < W.heap.size := by rw [← hgx, ← hWe]; simp
  have c0 : W.cell? ⟨gx, 0, none⟩ = some (.int .i64 3) := by rw [← hWe, ← hgx]; simp
  have c1 : W.cell? ⟨gx, 1, none⟩ = some (.bool k) := by rw [← hWe, ← hgx]; simp
  have c2 : W.cell? ⟨gx, 2, none⟩ = some (.int .i64 k0) := by rw [← hWe, ← hgx]; simp
  have c3 : W.cell? ⟨gx, 3, none⟩ = some (.int .i64 k1) := by rw [← hWe, ← hgx]; simp
  have c4 : W.cell? ⟨gx, 4, none⟩ = some (.int .i64 k2) := by rw [← hWe, ← hgx]; simp
  have c5 : W.cell? ⟨gx, 5, none⟩ = some (.int .i64 k3) := by rw [← hWe, ← hgx]; simp
  have c6 : W.cell? ⟨gx, 6, none⟩ = some (.int .i64 k4) := by rw [← hWe, ← hgx]; simp
  have c7 : W.cell? ⟨gx, 7, none⟩ = some (.int .i64 n) := by rw [← hWe, ← hgx]; simp
  have HWo : Hid (Wo own W pw T vo vw os ws ls ls) := hWW
  have HBW : Hid (Below w.heap.size w W) := hbW
  have HBB : Hid (Below base w W) := below_dn hbW hbs
  have HR : Hid (∀ j, Rel (T j).L (T j).R (T j).H (T j).Hr b) := hR
  have HL : Hid (ls.length ≤ b ∧ ∀ l ∈ ls, l.length ≤ b ∧ ∀ y ∈ l, kW y) := ⟨hl, hls⟩
  have H0 : Hid ((∀ g, g < base → own g = 0) ∧ base ≤ W.heap.size ∧ base ≤ w.heap.size) := ⟨h0, Nat.le_trans hbs hbW.size, hbs⟩
  have HLt : Hid (∀ j, gx ≠ (T j).p ∧ gx ≠ (T j).bl ∧ gx ≠ (T j).bh ∧ gx ≠ (T j).r) := fun j => by
    have h1 := (hW.tb j).lts
    have h2 := (hW.rf j).lt
    omega
  have hbx := hWW.box
  have hpw := hWW.ltw
  have HGx : Hid (w.heap.size = gx ∧ w.alloc (.cells #[.int .i64 3, .bool k, .int .i64 k0, .int .i64 k1, .int .i64 k2, .int .i64 k3, .int .i64 k4, .int .i64 n] 53) = W) := ⟨hgx, hWe⟩
  have e0 : W.cell? ⟨pw, 0, none⟩ = some (.pointer (some ⟨(T false).p, 0, none⟩)) := by simp [World.cell?, hbx]
  have e1 : W.cell? ⟨pw, 1, none⟩ = some (.pointer (some ⟨(T true).p, 0, none⟩)) := by simp [World.cell?, hbx]
  have e2 : W.cell? ⟨pw, 2, none⟩ = some (.pointer (some ⟨(T false).r, 0, none⟩)) := by simp [World.cell?, hbx]
  have e3 : W.cell? ⟨pw, 3, none⟩ = some (.pointer (some ⟨(T true).r, 0, none⟩)) := by simp [World.cell?, hbx]
  have HE : Hid ((if k = true then W.cell? ⟨pw, 1, none⟩ = some (.pointer (some ⟨(T k).p, 0, none⟩)) ∧ W.cell? ⟨pw, 3, none⟩ = some (.pointer (some ⟨(T k).r, 0, none⟩)) else W.cell? ⟨pw, 0, none⟩ = some (.pointer (some ⟨(T k).p, 0, none⟩)) ∧ W.cell? ⟨pw, 2, none⟩ = some (.pointer (some ⟨(T k).r, 0, none⟩)))) := by
    cases k
    · exact ⟨e0, e2⟩
    · exact ⟨e1, e3⟩
  clear hW hWW hbW hl hls h0 hbs hbx e0 e1 e2 e3 hgx hWe hR
  have hC : Calls Try.prog 45 #[.pointer (some ⟨(T k).p, 0, none⟩), .agg #[.int .i64 k1, .int .i64 k2]] W fun e w1 => e = .returned (.int .i64 (((T k).R.length : Int) - ((notS k1 k2 (T k).R).length : Int))) ∧ Hid (∀ i u, W.cell? ⟨gx, i, none⟩ = some u → w1.cell? ⟨gx, i, none⟩ = some u) ∧ Hid (Calls Try.prog 46 #[.pointer (some ⟨(T k).r, 0, none⟩), .agg #[.int .i64 k1, .int .i64 k2]] w1 fun e w2 => e = .returned (.int .i64 (((T k).R.length : Int) - ((notS k1 k2 (T k).R).length : Int))) ∧ Ws base w2 pw (b + 1) ∧ Below base w w2) := by
    have hTb := HWo.out.tb k
    have hRl := HR.out k
    have hln := hRl.lnL
    have hl1 := hRl.ln
    have hl2 := hRl.lh
    have hl3 := hRl.ls
    refine (drop10_any (T k).p (T k).bl (T k).bh (T k).L (T k).H k1 k2 W hTb ok2.2.1 ok2.2.2.1 (by omega)).mono ?_
    rintro e w1 ⟨rfl, hT1, hk1⟩
    obtain ⟨own1, W1, o1, _⟩ := HWo.out.prog1 k hk1 (fun g hg _ => by rw [show g = (T k).bl from hg]; exact (HWo.out.ot k).2.1) hT1
    have B1 : Below base W w1 := Kq.bas H0.out.1 H0.out.2.1 hk1 (fun g hg _ => by rw [show g = (T k).bl from hg, (HWo.out.ot k).2.1]; exact tgT_pos k)
    refine ⟨by rw [hRl.many], fun i u hu => (World.cell?_of_block (a := ⟨gx, i, none⟩) (hk1.block gx hgW (HLt.out k).2.1)).trans hu, ?_⟩
    have z1 : ∀ g, g < base → own1 g = 0 := fun g hg => (o1 g (by have := H0.out.2.1; omega)).trans (H0.out.1 g hg)
    have z2 : base ≤ w1.heap.size := Nat.le_trans H0.out.2.1 hk1.size
    have hRf := W1.rfP
    refine (drop2_any (T k).r _ (T k).R (T k).Hr k1 k2 w1 hRf (by omega) hRl.kw ok2.2.1 ok2.2.2.1).mono ?_
    rintro e w2 ⟨rfl, hR2, hk2⟩
    obtain ⟨own2, W2, o2⟩ := W1.ref1 hk2 hR2
    have B2 : Below base w1 w2 := Kq.bas z1 z2 hk2 (fun g hg _ => by
      rcases hg with hg | hg
      · rw [hg, W1.orP]; exact tgR_pos k
      · rw [hg]; exact tgR_pos k)
    exact ⟨rfl, Ws.after W2 HR.out ((hRl.drop k1 k2).mono (by omega)) (by have := HL.out.1; omega) (more_ls HL.out.2) (fun g hg => (o2 g (by omega)).trans (z1 g hg)) (Nat.le_trans z2 hk2.size), HBB.out.trans (B1.trans B2)⟩
  obtain ⟨V, hV⟩ : ∃ V, (((T k).R.length : Int) - ((notS k1 k2 (T k).R).length : Int)) = V := ⟨_, rfl⟩
  rw [hV] at hC
  clear hV
  obtain ⟨P, hP⟩ : ∃ P, (T k).p = P := ⟨_, rfl⟩
  obtain ⟨Q, hQ⟩ : ∃ P, (T k).r = P := ⟨_, rfl⟩
  rw [hP, hQ] at HE
  rw [hP, hQ] at hC
  clear hP hQ
  rw [show (opV (3, k, (k0, k1, k2, k3, k4), n)).toArray = #[.int .i64 3, .bool k, .int .i64 k0, .int .i64 k1, .int .i64 k2, .int .i64 k3, .int .i64 k4, .int .i64 n] from rfl]
  cases k <;>
  · have hE := HE.out
    simp only [if_true, Bool.false_eq_true, reduceIte] at hE
    obtain ⟨f0, f1⟩ := hE
    clear HE
    go_enter Try.func21, Try.ntmps21
    have hWg := HGx.out.2
    have hGg := HGx.out.1
    go_wp2_with fail
    refine hC.mono ?_
    rintro e w1 ⟨rfl, hKc, hN⟩
    have y2 := hKc.out 2 _ c2
    have y3 := hKc.out 3 _ c3
    have y4 := hKc.out 4 _ c4
    have y5 := hKc.out 5 _ c5
    have y6 := hKc.out 6 _ c6
    have y7 := hKc.out 7 _ c7
    clear c0 c1 c2 c3 c4 c5 c6 c7 f0 f1 hWg hGg hC
    go_wp2_with fail
    refine hN.out.mono ?_
    rintro e w2 ⟨rfl, hW2, hB2⟩
    have HW2 : Hid (Ws base w2 pw (b + 1)) := hW2
    have HB2 : Hid (Below base w w2) := hB2
    clear hW2 hB2 y2 y3 y4 y5 y6 y7 hN hKc
    go_wp2
    go_ret
    exact ⟨rfl, HW2.out, HB2.out⟩

end Go.Proofs.Ytnclfoljfnfglai

namespace Go.Proofs.Ytnclfoljfnfglai
open Go.RowKit Go.Maps
set_option linter.unusedVariables false

set_option maxHeartbeats 8000000 in
set_option maxRecDepth 100000 in
theorem step_hold (base pw b : Nat) (x : Opx) (w : World) (h : Ws base w pw b) (hb : b + 8 < 2199023255552) (hx : opOk x) (hkd : x.1 = 4) :
    Calls Try.prog 21 #[.pointer (some ⟨pw, 0, none⟩), .agg (opV x).toArray] w fun e w' => e = .returned (.bool true) ∧ Ws base w' pw (b + 1) ∧ Below base w w' := by
  have HWs : Hid (Ws base w pw b) := h
  obtain ⟨own, T, vo, vw, os, ws, ls, hW, hR, hl, hls, h0, hbs⟩ := h
  obtain ⟨kd, k, ⟨k0, k1, k2, k3, k4⟩, n⟩ := x
  obtain ⟨ok1, ok2, ok3⟩ := hx
  simp only at hkd ok1 ok2 ok3
  subst hkd
  obtain ⟨W, hWe⟩ : ∃ W, w.alloc (.cells #[.int .i64 4, .bool k, .int .i64 k0, .int .i64 k1, .int .i64 k2, .int .i64 k3, .int .i64 k4, .int .i64 n] 53) = W := ⟨_, rfl⟩
  have hbW : Below w.heap.size w W := by rw [← hWe]; exact (Below.refl _ _).alloc (Nat.le_refl _) _
  have hWW := hW.same hbW
  obtain ⟨gx, hgx⟩ : ∃ g, w.heap.size = g := ⟨_, rfl⟩
  have hgW : gx < W.heap.size := by rw [← hgx, ← hWe]; simp
  have c0 : W.cell? ⟨gx, 0, none⟩ = some (.int .i64 4) := by rw [← hWe, ← hgx]; simp
  have c1 : W.cell? ⟨gx, 1, none⟩ = some (.bool k) := by rw [← hWe, ← hgx]; simp
  have c2 : W.cell? ⟨gx, 2, none⟩ = some (.int .i64 k0) := by rw [← hWe, ← hgx]; simp
  have c3 : W.cell? ⟨gx, 3, none⟩ = some (.int .i64 k1) := by rw [← hWe, ← hgx]; simp
  have c4 : W.cell? ⟨gx, 4, none⟩ = some (.int .i64 k2) := by rw [← hWe, ← hgx]; simp
  have c5 : W.cell? ⟨gx, 5, none⟩ = some (.int .i64 k3) := by rw [← hWe, ← hgx]; simp
  have c6 : W.cell? ⟨gx, 6, none⟩ = some (.int .i64 k4) := by rw [← hWe, ← hgx]; simp
  have c7 : W.cell? ⟨gx, 7, none⟩ = some (.int .i64 n) := by rw [← hWe, ← hgx]; simp
  have HWo : Hid (Wo own W pw T vo vw os ws ls ls) := hWW
  have HBW : Hid (Below w.heap.size w W) := hbW
  have HBB : Hid (Below base w W) := below_dn hbW hbs
  have HR : Hid (∀ j, Rel (T j).L (T j).R (T j).H (T j).Hr b) := hR
  have HL : Hid (ls.length ≤ b ∧ ∀ l ∈ ls, l.length ≤ b ∧ ∀ y ∈ l, kW y) := ⟨hl, hls⟩
  have H0 : Hid ((∀ g, g < base → own g = 0) ∧ base ≤ W.heap.size ∧ base ≤ w.heap.size) := ⟨h0, Nat.le_trans hbs hbW.size, hbs⟩
  have HLt : Hid (∀ j, gx ≠ (T j).p ∧ gx ≠ (T j).bl ∧ gx ≠ (T j).bh ∧ gx ≠ (T j).r) := fun j => by
    have h1 := (hW.tb j).lts
    have h2 := (hW.rf j).lt
    omega
  have hbx := hWW.box
  have hpw := hWW.ltw
  have HGx : Hid (w.heap.size = gx ∧ w.alloc (.cells #[.int .i64 4, .bool k, .int .i64 k0, .int .i64 k1, .int .i64 k2, .int .i64 k3, .int .i64 k4, .int .i64 n] 53) = W) := ⟨hgx, hWe⟩
  have e0 : W.cell? ⟨pw, 0, none⟩ = some (.pointer (some ⟨(T false).p, 0, none⟩)) := by simp [World.cell?, hbx]
  have e1 : W.cell? ⟨pw, 1, none⟩ = some (.pointer (some ⟨(T true).p, 0, none⟩)) := by simp [World.cell?, hbx]
  have e2 : W.cell? ⟨pw, 2, none⟩ = some (.pointer (some ⟨(T false).r, 0, none⟩)) := by simp [World.cell?, hbx]
  have e3 : W.cell? ⟨pw, 3, none⟩ = some (.pointer (some ⟨(T true).r, 0, none⟩)) := by simp [World.cell?, hbx]
  have HE : Hid ((if k = true then W.cell? ⟨pw, 1, none⟩ = some (.pointer (some ⟨(T k).p, 0, none⟩)) ∧ W.cell? ⟨pw, 3, none⟩ = some (.pointer (some ⟨(T k).r, 0, none⟩)) else W.cell? ⟨pw, 0, none⟩ = some (.pointer (some ⟨(T k).p, 0, none⟩)) ∧ W.cell? ⟨pw, 2, none⟩ = some (.pointer (some ⟨(T k).r, 0, none⟩)))) := by
    cases k
    · exact ⟨e0, e2⟩
    · exact ⟨e1, e3⟩
  clear hW hWW hbW hl hls h0 hbs hbx e0 e1 e2 e3 hgx hWe hR
  have hC : Calls Try.prog 30 #[.pointer (some ⟨(T k).p, 0, none⟩), .int .i64 n] W fun e w1 => e = .returned (.tuple #[]) ∧ Hid (∀ i u, W.cell? ⟨gx, i, none⟩ = some u → w1.cell? ⟨gx, i, none⟩ = some u) ∧ Hid (Calls Try.prog 47 #[.pointer (some ⟨(T k).r, 0, none⟩), .int .i64 n] w1 fun e w2 => e = .returned (.tuple #[]) ∧ Ws base w2 pw (b + 1) ∧ Below base w w2) := by
    have hTb := HWo.out.tb k
    have hRl := HR.out k
    have hln := hRl.lnL
    have hl1 := hRl.ln
    have hl2 := hRl.lh
    have hl3 := hRl.ls
    refine (hold10_any (T k).p (T k).bl (T k).bh (T k).L (T k).H n W hTb ok3 (by omega)).mono ?_
    rintro e w1 ⟨rfl, hT1, hk1⟩
    obtain ⟨own1, W1, o1, _⟩ := HWo.out.prog1 k hk1 (fun g hg _ => by rw [show g = (T k).bh from hg]; exact (HWo.out.ot k).2.2) hT1
    have B1 : Below base W w1 := Kq.bas H0.out.1 H0.out.2.1 hk1 (fun g hg _ => by rw [show g = (T k).bh from hg, (HWo.out.ot k).2.2]; exact tgT_pos k)
    refine ⟨rfl, fun i u hu => (World.cell?_of_block (a := ⟨gx, i, none⟩) (hk1.block gx hgW (HLt.out k).2.2.1)).trans hu, ?_⟩
    have z1 : ∀ g, g < base → own1 g = 0 := fun g hg => (o1 g (by have := H0.out.2.1; omega)).trans (H0.out.1 g hg)
    have z2 : base ≤ w1.heap.size := Nat.le_trans H0.out.2.1 hk1.size
    have hRf := W1.rfP
    refine (hold2_any (T k).r _ (T k).R (T k).Hr n w1 hRf (by omega)).mono ?_
    rintro e w2 ⟨rfl, hR2, hk2⟩
    obtain ⟨own2, W2, o2⟩ := W1.ref1 hk2 hR2
    have B2 : Below base w1 w2 := Kq.bas z1 z2 hk2 (fun g hg _ => by
      rcases hg with hg | hg
      · rw [hg, W1.orP]; exact tgR_pos k
      · rw [hg]; exact tgR_pos k)
    exact ⟨rfl, Ws.after W2 HR.out (hRl.hold n) (by have := HL.out.1; omega) (more_ls HL.out.2) (fun g hg => (o2 g (by omega)).trans (z1 g hg)) (Nat.le_trans z2 hk2.size), HBB.out.trans (B1.trans B2)⟩
  obtain ⟨P, hP⟩ : ∃ P, (T k).p = P := ⟨_, rfl⟩
  obtain ⟨Q, hQ⟩ : ∃ P, (T k).r = P := ⟨_, rfl⟩
  rw [hP, hQ] at HE
  rw [hP, hQ] at hC
  clear hP hQ
  rw [show (opV (4, k, (k0, k1, k2, k3, k4), n)).toArray = #[.int .i64 4, .bool k, .int .i64 k0, .int .i64 k1, .int .i64 k2, .int .i64 k3, .int .i64 k4, .int .i64 n] from rfl]
  cases k <;>
  · have hE := HE.out
    simp only [if_true, Bool.false_eq_true, reduceIte] at hE
    obtain ⟨f0, f1⟩ := hE
    clear HE
    go_enter Try.func21, Try.ntmps21
    have hWg := HGx.out.2
    have hGg := HGx.out.1
    go_wp2_with fail
    refine hC.mono ?_
    rintro e w1 ⟨rfl, hKc, hN⟩
    have y2 := hKc.out 2 _ c2
    have y3 := hKc.out 3 _ c3
    have y4 := hKc.out 4 _ c4
    have y5 := hKc.out 5 _ c5
    have y6 := hKc.out 6 _ c6
    have y7 := hKc.out 7 _ c7
    clear c0 c1 c2 c3 c4 c5 c6 c7 f0 f1 hWg hGg hC
    go_wp2_with fail
    refine hN.out.mono ?_
    rintro e w2 ⟨rfl, hW2, hB2⟩
    have HW2 : Hid (Ws base w2 pw (b + 1)) := hW2
    have HB2 : Hid (Below base w w2) := hB2
    clear hW2 hB2 y2 y3 y4 y5 y6 y7 hN hKc
    go_wp2
    go_ret
    exact ⟨rfl, HW2.out, HB2.out⟩

set_option maxHeartbeats 8000000 in
set_option maxRecDepth 100000 in
theorem step_go (base pw b : Nat) (x : Opx) (w : World) (h : Ws base w pw b) (hb : b + 8 < 2199023255552) (hx : opOk x) (hkd : x.1 = 5) :
    Calls Try.prog 21 #[.pointer (some ⟨pw, 0, none⟩), .agg (opV x).toArray] w fun e w' => e = .returned (.bool true) ∧ Ws base w' pw (b + 1) ∧ Below base w w' := by
  have HWs : Hid (Ws base w pw b) := h
  obtain ⟨own, T, vo, vw, os, ws, ls, hW, hR, hl, hls, h0, hbs⟩ := h
  obtain ⟨kd, k, ⟨k0, k1, k2, k3, k4⟩, n⟩ := x
  obtain ⟨ok1, ok2, ok3⟩ := hx
  simp only at hkd ok1 ok2 ok3
  subst hkd
  obtain ⟨W, hWe⟩ : ∃ W, w.alloc (.cells #[.int .i64 5, .bool k, .int .i64 k0, .int .i64 k1, .int .i64 k2, .int .i64 k3, .int .i64 k4, .int .i64 n] 53) = W := ⟨_, rfl⟩
  have hbW : Below w.heap.size w W := by rw [← hWe]; exact (Below.refl _ _).alloc (Nat.le_refl _) _
  have hWW := hW.same hbW
  obtain ⟨gx, hgx⟩ : ∃ g, w.heap.size = g := ⟨_, rfl⟩
  have hgW : gx < W.heap.size := by rw [← hgx, ← hWe]; simp
  have c0 : W.cell? ⟨gx, 0, none⟩ = some (.int .i64 5) := by rw [← hWe, ← hgx]; simp
  have c1 : W.cell? ⟨gx, 1, none⟩ = some (.bool k) := by rw [← hWe, ← hgx]; simp
  have c2 : W.cell? ⟨gx, 2, none⟩ = some (.int .i64 k0) := by rw [← hWe, ← hgx]; simp
  have c3 : W.cell? ⟨gx, 3, none⟩ = some (.int .i64 k1) := by rw [← hWe, ← hgx]; simp
  have c4 : W.cell? ⟨gx, 4, none⟩ = some (.int .i64 k2) := by rw [← hWe, ← hgx]; simp
  have c5 : W.cell? ⟨gx, 5, none⟩ = some (.int .i64 k3) := by rw [← hWe, ← hgx]; simp
  have c6 : W.cell? ⟨gx, 6, none⟩ = some (.int .i64 k4) := by rw [← hWe, ← hgx]; simp
  have c7 : W.cell? ⟨gx, 7, none⟩ = some (.int .i64 n) := by rw [← hWe, ← hgx]; simp
  have HWo : Hid (Wo own W pw T vo vw os ws ls ls) := hWW
  have HBW : Hid (Below w.heap.size w W) := hbW
  have HBB : Hid (Below base w W) := below_dn hbW hbs
  have HR : Hid (∀ j, Rel (T j).L (T j).R (T j).H (T j).Hr b) := hR
  have HL : Hid (ls.length ≤ b ∧ ∀ l ∈ ls, l.length ≤ b ∧ ∀ y ∈ l, kW y) := ⟨hl, hls⟩
  have H0 : Hid ((∀ g, g < base → own g = 0) ∧ base ≤ W.heap.size ∧ base ≤ w.heap.size) := ⟨h0, Nat.le_trans hbs hbW.size, hbs⟩
  have HLt : Hid (∀ j, gx ≠ (T j).p ∧ gx ≠ (T j).bl ∧ gx ≠ (T j).bh ∧ gx ≠ (T j).r) := fun j => by
    have h1 := (hW.tb j).lts
    have h2 := (hW.rf j).lt
    omega
  have hbx := hWW.box
  have hpw := hWW.ltw
  have HGx : Hid (w.heap.size = gx ∧ w.alloc (.cells #[.int .i64 5, .bool k, .int .i64 k0, .int .i64 k1, .int .i64 k2, .int .i64 k3, .int .i64 k4, .int .i64 n] 53) = W) := ⟨hgx, hWe⟩
  have e0 : W.cell? ⟨pw, 0, none⟩ = some (.pointer (some ⟨(T false).p, 0, none⟩)) := by simp [World.cell?, hbx]
  have e1 : W.cell? ⟨pw, 1, none⟩ = some (.pointer (some ⟨(T true).p, 0, none⟩)) := by simp [World.cell?, hbx]
  have e2 : W.cell? ⟨pw, 2, none⟩ = some (.pointer (some ⟨(T false).r, 0, none⟩)) := by simp [World.cell?, hbx]
  have e3 : W.cell? ⟨pw, 3, none⟩ = some (.pointer (some ⟨(T true).r, 0, none⟩)) := by simp [World.cell?, hbx]
  have HE : Hid ((if k = true then W.cell? ⟨pw, 1, none⟩ = some (.pointer (some ⟨(T k).p, 0, none⟩)) ∧ W.cell? ⟨pw, 3, none⟩ = some (.pointer (some ⟨(T k).r, 0, none⟩)) else W.cell? ⟨pw, 0, none⟩ = some (.pointer (some ⟨(T k).p, 0, none⟩)) ∧ W.cell? ⟨pw, 2, none⟩ = some (.pointer (some ⟨(T k).r, 0, none⟩)))) := by
    cases k
    · exact ⟨e0, e2⟩
    · exact ⟨e1, e3⟩
  clear hW hWW hbW hl hls h0 hbs hbx e0 e1 e2 e3 hgx hWe hR
  have hC : Calls Try.prog 31 #[.pointer (some ⟨(T k).p, 0, none⟩), .int .i64 n] W fun e w1 => e = .returned (.tuple #[]) ∧ Hid (∀ i u, W.cell? ⟨gx, i, none⟩ = some u → w1.cell? ⟨gx, i, none⟩ = some u) ∧ Hid (Calls Try.prog 48 #[.pointer (some ⟨(T k).r, 0, none⟩), .int .i64 n] w1 fun e w2 => e = .returned (.tuple #[]) ∧ Ws base w2 pw (b + 1) ∧ Below base w w2) := by
    have hTb := HWo.out.tb k
    have hRl := HR.out k
    have hln := hRl.lnL
    have hl1 := hRl.ln
    have hl2 := hRl.lh
    have hl3 := hRl.ls
    refine (go10_any (T k).p (T k).bl (T k).bh (T k).L (T k).H n W hTb ok3).mono ?_
    rintro e w1 ⟨rfl, hT1, hk1⟩
    obtain ⟨own1, W1, o1, _⟩ := HWo.out.prog1 k hk1 (fun g hg _ => by rw [show g = (T k).bh from hg]; exact (HWo.out.ot k).2.2) hT1
    have B1 : Below base W w1 := Kq.bas H0.out.1 H0.out.2.1 hk1 (fun g hg _ => by rw [show g = (T k).bh from hg, (HWo.out.ot k).2.2]; exact tgT_pos k)
    refine ⟨rfl, fun i u hu => (World.cell?_of_block (a := ⟨gx, i, none⟩) (hk1.block gx hgW (HLt.out k).2.2.1)).trans hu, ?_⟩
    have z1 : ∀ g, g < base → own1 g = 0 := fun g hg => (o1 g (by have := H0.out.2.1; omega)).trans (H0.out.1 g hg)
    have z2 : base ≤ w1.heap.size := Nat.le_trans H0.out.2.1 hk1.size
    have hRf := W1.rfP
    refine (go2_any (T k).r _ (T k).R (T k).Hr n w1 hRf (by omega)).mono ?_
    rintro e w2 ⟨rfl, hR2, hk2⟩
    obtain ⟨own2, W2, o2⟩ := W1.ref1 hk2 hR2
    have B2 : Below base w1 w2 := Kq.bas z1 z2 hk2 (fun g hg _ => by
      rcases hg with hg | hg
      · rw [hg, W1.orP]; exact tgR_pos k
      · rw [hg]; exact tgR_pos k)
    exact ⟨rfl, Ws.after W2 HR.out ((hRl.go hTb.ndH n).mono (by omega)) (by have := HL.out.1; omega) (more_ls HL.out.2) (fun g hg => (o2 g (by omega)).trans (z1 g hg)) (Nat.le_trans z2 hk2.size), HBB.out.trans (B1.trans B2)⟩
  obtain ⟨P, hP⟩ : ∃ P, (T k).p = P := ⟨_, rfl⟩
  obtain ⟨Q, hQ⟩ : ∃ P, (T k).r = P := ⟨_, rfl⟩
  rw [hP, hQ] at HE
  rw [hP, hQ] at hC
  clear hP hQ
  rw [show (opV (5, k, (k0, k1, k2, k3, k4), n)).toArray = #[.int .i64 5, .bool k, .int .i64 k0, .int .i64 k1, .int .i64 k2, .int .i64 k3, .int .i64 k4, .int .i64 n] from rfl]
  cases k <;>
  · have hE := HE.out
    simp only [if_true, Bool.false_eq_true, reduceIte] at hE
    obtain ⟨f0, f1⟩ := hE
    clear HE
    go_enter Try.func21, Try.ntmps21
    have hWg := HGx.out.2
    have hGg := HGx.out.1
    go_wp2_with fail
    refine hC.mono ?_
    rintro e w1 ⟨rfl, hKc, hN⟩
    have y2 := hKc.out 2 _ c2
    have y3 := hKc.out 3 _ c3
    have y4 := hKc.out 4 _ c4
    have y5 := hKc.out 5 _ c5
    have y6 := hKc.out 6 _ c6
    have y7 := hKc.out 7 _ c7
    clear c0 c1 c2 c3 c4 c5 c6 c7 f0 f1 hWg hGg hC
    go_wp2_with fail
    refine hN.out.mono ?_
    rintro e w2 ⟨rfl, hW2, hB2⟩
    have HW2 : Hid (Ws base w2 pw (b + 1)) := hW2
    have HB2 : Hid (Below base w w2) := hB2
    clear hW2 hB2 y2 y3 y4 y5 y6 y7 hN hKc
    go_wp2
    go_ret
    exact ⟨rfl, HW2.out, HB2.out⟩

end Go.Proofs.Ytnclfoljfnfglai

namespace Go.Proofs.Ytnclfoljfnfglai
open Go.RowKit Go.Maps
set_option linter.unusedVariables false

set_option maxHeartbeats 8000000 in
set_option maxRecDepth 100000 in
theorem step_left (base pw b : Nat) (x : Opx) (w : World) (h : Ws base w pw b) (hb : b + 8 < 2199023255552) (hx : opOk x) (hkd : x.1 = 7) :
    Calls Try.prog 21 #[.pointer (some ⟨pw, 0, none⟩), .agg (opV x).toArray] w fun e w' => e = .returned (.bool true) ∧ Ws base w' pw (b + 1) ∧ Below base w w' := by
  have HWs : Hid (Ws base w pw b) := h
  obtain ⟨own, T, vo, vw, os, ws, ls, hW, hR, hl, hls, h0, hbs⟩ := h
  obtain ⟨kd, k, ⟨k0, k1, k2, k3, k4⟩, n⟩ := x
  obtain ⟨ok1, ok2, ok3⟩ := hx
  simp only at hkd ok1 ok2 ok3
  subst hkd
  obtain ⟨W, hWe⟩ : ∃ W, w.alloc (.cells #[.int .i64 7, .bool k, .int .i64 k0, .int .i64 k1, .int .i64 k2, .int .i64 k3, .int .i64 k4, .int .i64 n] 53) = W := ⟨_, rfl⟩
  have hbW : Below w.heap.size w W := by rw [← hWe]; exact (Below.refl _ _).alloc (Nat.le_refl _) _
  have hWW := hW.same hbW
  obtain ⟨gx, hgx⟩ : ∃ g, w.heap.size = g := ⟨_, rfl⟩
  have hgW : gx < W.heap.size := by rw [← hgx, ← hWe]; simp
  have c0 : W.cell? ⟨gx, 0, none⟩ = some (.int .i64 7) := by rw [← hWe, ← hgx]; simp
  have c1 : W.cell? ⟨gx, 1, none⟩ = some (.bool k) := by rw [← hWe, ← hgx]; simp
  have c2 : W.cell? ⟨gx, 2, none⟩ = some (.int .i64 k0) := by rw [← hWe, ← hgx]; simp
  have c3 : W.cell? ⟨gx, 3, none⟩ = some (.int .i64 k1) := by rw [← hWe, ← hgx]; simp
  have c4 : W.cell? ⟨gx, 4, none⟩ = some (.int .i64 k2) := by rw [← hWe, ← hgx]; simp
  have c5 : W.cell? ⟨gx, 5, none⟩ = some (.int .i64 k3) := by rw [← hWe, ← hgx]; simp
  have c6 : W.cell? ⟨gx, 6, none⟩ = some (.int .i64 k4) := by rw [← hWe, ← hgx]; simp
  have c7 : W.cell? ⟨gx, 7, none⟩ = some (.int .i64 n) := by rw [← hWe, ← hgx]; simp
  have HWo : Hid (Wo own W pw T vo vw os ws ls ls) := hWW
  have HBW : Hid (Below w.heap.size w W) := hbW
  have HBB : Hid (Below base w W) := below_dn hbW hbs
  have HR : Hid (∀ j, Rel (T j).L (T j).R (T j).H (T j).Hr b) := hR
  have HL : Hid (ls.length ≤ b ∧ ∀ l ∈ ls, l.length ≤ b ∧ ∀ y ∈ l, kW y) := ⟨hl, hls⟩
  have H0 : Hid ((∀ g, g < base → own g = 0) ∧ base ≤ W.heap.size ∧ base ≤ w.heap.size) := ⟨h0, Nat.le_trans hbs hbW.size, hbs⟩
  have HLt : Hid (∀ j, gx ≠ (T j).p ∧ gx ≠ (T j).bl ∧ gx ≠ (T j).bh ∧ gx ≠ (T j).r) := fun j => by
    have h1 := (hW.tb j).lts
    have h2 := (hW.rf j).lt
    omega
  have hbx := hWW.box
  have hpw := hWW.ltw
  have HGx : Hid (w.heap.size = gx ∧ w.alloc (.cells #[.int .i64 7, .bool k, .int .i64 k0, .int .i64 k1, .int .i64 k2, .int .i64 k3, .int .i64 k4, .int .i64 n] 53) = W) := ⟨hgx, hWe⟩
  have e0 : W.cell? ⟨pw, 0, none⟩ = some (.pointer (some ⟨(T false).p, 0, none⟩)) := by simp [World.cell?, hbx]
  have e1 : W.cell? ⟨pw, 1, none⟩ = some (.pointer (some ⟨(T true).p, 0, none⟩)) := by simp [World.cell?, hbx]
  have e2 : W.cell? ⟨pw, 2, none⟩ = some (.pointer (some ⟨(T false).r, 0, none⟩)) := by simp [World.cell?, hbx]
  have e3 : W.cell? ⟨pw, 3, none⟩ = some (.pointer (some ⟨(T true).r, 0, none⟩)) := by simp [World.cell?, hbx]
  have HE : Hid ((if k = true then W.cell? ⟨pw, 1, none⟩ = some (.pointer (some ⟨(T k).p, 0, none⟩)) ∧ W.cell? ⟨pw, 3, none⟩ = some (.pointer (some ⟨(T k).r, 0, none⟩)) else W.cell? ⟨pw, 0, none⟩ = some (.pointer (some ⟨(T k).p, 0, none⟩)) ∧ W.cell? ⟨pw, 2, none⟩ = some (.pointer (some ⟨(T k).r, 0, none⟩)))) := by
    cases k
    · exact ⟨e0, e2⟩
    · exact ⟨e1, e3⟩
  clear hW hWW hbW hl hls h0 hbs hbx e0 e1 e2 e3 hgx hWe hR
  have hC : Calls Try.prog 34 #[.pointer (some ⟨(T k).p, 0, none⟩), kA (k0, k1, k2, k3, k4)] W fun e w1 => e = .returned (.tuple #[.int .i64 (lftT (T k).R (k0, k1, k2, k3, k4)), .bool (decide ((k0, k1, k2, k3, k4) ∈ (T k).R.map Prod.fst))]) ∧ Hid (∀ i u, W.cell? ⟨gx, i, none⟩ = some u → w1.cell? ⟨gx, i, none⟩ = some u) ∧ Hid (Calls Try.prog 51 #[.pointer (some ⟨(T k).r, 0, none⟩), kA (k0, k1, k2, k3, k4)] w1 fun e w2 => e = .returned (.tuple #[.int .i64 (lftT (T k).R (k0, k1, k2, k3, k4)), .bool (decide ((k0, k1, k2, k3, k4) ∈ (T k).R.map Prod.fst))]) ∧ Ws base w2 pw (b + 1) ∧ Below base w w2) := by
    have hTb := HWo.out.tb k
    have hRl := HR.out k
    have hln := hRl.lnL
    have hl1 := hRl.ln
    have hl2 := hRl.lh
    have hl3 := hRl.ls
    refine (left10_any (T k).p (T k).bl (T k).bh (T k).L (T k).H (k0, k1, k2, k3, k4) W hTb ok2).mono ?_
    rintro e w1 ⟨rfl, hb1⟩
    refine ⟨by rw [hRl.key, hRl.lft], fun i u hu => tm_cell hu hb1, ?_⟩
    refine (left2_any (T k).r _ (T k).R (T k).Hr (k0, k1, k2, k3, k4) w1 ((HWo.out.same hb1).rf k) (by omega) hRl.kw ok2 hRl.rise.nd).mono ?_
    rintro e w2 ⟨rfl, hb2⟩
    have hb3 := below_up HBW.out (below_up hb1 hb2)
    exact ⟨rfl, HWs.out.same hb3, below_dn hb3 H0.out.2.2⟩
  obtain ⟨B, hB⟩ : ∃ B, decide ((k0, k1, k2, k3, k4) ∈ (T k).R.map Prod.fst) = B := ⟨_, rfl⟩
  obtain ⟨V, hV⟩ : ∃ V, lftT (T k).R (k0, k1, k2, k3, k4) = V := ⟨_, rfl⟩
  rw [hB, hV] at hC
  clear hB hV
  obtain ⟨P, hP⟩ : ∃ P, (T k).p = P := ⟨_, rfl⟩
  obtain ⟨Q, hQ⟩ : ∃ P, (T k).r = P := ⟨_, rfl⟩
  rw [hP, hQ] at HE
  rw [hP, hQ] at hC
  clear hP hQ
  rw [show (opV (7, k, (k0, k1, k2, k3, k4), n)).toArray = #[.int .i64 7, .bool k, .int .i64 k0, .int .i64 k1, .int .i64 k2, .int .i64 k3, .int .i64 k4, .int .i64 n] from rfl]
  cases k <;>
  · have hE := HE.out
    simp only [if_true, Bool.false_eq_true, reduceIte] at hE
    obtain ⟨f0, f1⟩ := hE
    clear HE
    go_enter Try.func21, Try.ntmps21
    have hWg := HGx.out.2
    have hGg := HGx.out.1
    go_wp2_with fail
    refine hC.mono ?_
    rintro e w1 ⟨rfl, hKc, hN⟩
    have y2 := hKc.out 2 _ c2
    have y3 := hKc.out 3 _ c3
    have y4 := hKc.out 4 _ c4
    have y5 := hKc.out 5 _ c5
    have y6 := hKc.out 6 _ c6
    have y7 := hKc.out 7 _ c7
    clear c0 c1 c2 c3 c4 c5 c6 c7 f0 f1 hWg hGg hC
    go_wp2_with fail
    refine hN.out.mono ?_
    rintro e w2 ⟨rfl, hW2, hB2⟩
    have HW2 : Hid (Ws base w2 pw (b + 1)) := hW2
    have HB2 : Hid (Below base w w2) := hB2
    clear hW2 hB2 y2 y3 y4 y5 y6 y7 hN hKc
    cases B <;>
    · go_wp2
      go_ret
      exact ⟨rfl, HW2.out, HB2.out⟩

set_option maxHeartbeats 8000000 in
set_option maxRecDepth 100000 in
theorem step_count (base pw b : Nat) (x : Opx) (w : World) (h : Ws base w pw b) (hb : b + 8 < 2199023255552) (hx : opOk x) (hkd : x.1 = 8) :
    Calls Try.prog 21 #[.pointer (some ⟨pw, 0, none⟩), .agg (opV x).toArray] w fun e w' => e = .returned (.bool true) ∧ Ws base w' pw (b + 1) ∧ Below base w w' := by
  have HWs : Hid (Ws base w pw b) := h
  obtain ⟨own, T, vo, vw, os, ws, ls, hW, hR, hl, hls, h0, hbs⟩ := h
  obtain ⟨kd, k, ⟨k0, k1, k2, k3, k4⟩, n⟩ := x
  obtain ⟨ok1, ok2, ok3⟩ := hx
  simp only at hkd ok1 ok2 ok3
  subst hkd
  obtain ⟨W, hWe⟩ : ∃ W, w.alloc (.cells #[.int .i64 8, .bool k, .int .i64 k0, .int .i64 k1, .int .i64 k2, .int .i64 k3, .int .i64 k4, .int .i64 n] 53) = W := ⟨_, rfl⟩
  have hbW : Below w.heap.size w W := by rw [← hWe]; exact (Below.refl _ _).alloc (Nat.le_refl _) _
  have hWW := hW.same hbW
  obtain ⟨gx, hgx⟩ : ∃ g, w.heap.size = g := ⟨_, rfl⟩
  have hgW : gx < W.heap.size := by rw [← hgx, ← hWe]; simp
  have c0 : W.cell? ⟨gx, 0, none⟩ = some (.int .i64 8) := by rw [← hWe, ← hgx]; simp
  have c1 : W.cell? ⟨gx, 1, none⟩ = some (.bool k) := by rw [← hWe, ← hgx]; simp
  have c2 : W.cell? ⟨gx, 2, none⟩ = some (.int .i64 k0) := by rw [← hWe, ← hgx]; simp
  have c3 : W.cell? ⟨gx, 3, none⟩ = some (.int .i64 k1) := by rw [← hWe, ← hgx]; simp
  have c4 : W.cell? ⟨gx, 4, none⟩ = some (.int .i64 k2) := by rw [← hWe, ← hgx]; simp
  have c5 : W.cell? ⟨gx, 5, none⟩ = some (.int .i64 k3) := by rw [← hWe, ← hgx]; simp
  have c6 : W.cell? ⟨gx, 6, none⟩ = some (.int .i64 k4) := by rw [← hWe, ← hgx]; simp
  have c7 : W.cell? ⟨gx, 7, none⟩ = some (.int .i64 n) := by rw [← hWe, ← hgx]; simp
  have HWo : Hid (Wo own W pw T vo vw os ws ls ls) := hWW
  have HBW : Hid (Below w.heap.size w W) := hbW
  have HBB : Hid (Below base w W) := below_dn hbW hbs
  have HR : Hid (∀ j, Rel (T j).L (T j).R (T j).H (T j).Hr b) := hR
  have HL : Hid (ls.length ≤ b ∧ ∀ l ∈ ls, l.length ≤ b ∧ ∀ y ∈ l, kW y) := ⟨hl, hls⟩
  have H0 : Hid ((∀ g, g < base → own g = 0) ∧ base ≤ W.heap.size ∧ base ≤ w.heap.size) := ⟨h0, Nat.le_trans hbs hbW.size, hbs⟩
  have HLt : Hid (∀ j, gx ≠ (T j).p ∧ gx ≠ (T j).bl ∧ gx ≠ (T j).bh ∧ gx ≠ (T j).r) := fun j => by
    have h1 := (hW.tb j).lts
    have h2 := (hW.rf j).lt
    omega
  have hbx := hWW.box
  have hpw := hWW.ltw
  have HGx : Hid (w.heap.size = gx ∧ w.alloc (.cells #[.int .i64 8, .bool k, .int .i64 k0, .int .i64 k1, .int .i64 k2, .int .i64 k3, .int .i64 k4, .int .i64 n] 53) = W) := ⟨hgx, hWe⟩
  have e0 : W.cell? ⟨pw, 0, none⟩ = some (.pointer (some ⟨(T false).p, 0, none⟩)) := by simp [World.cell?, hbx]
  have e1 : W.cell? ⟨pw, 1, none⟩ = some (.pointer (some ⟨(T true).p, 0, none⟩)) := by simp [World.cell?, hbx]
  have e2 : W.cell? ⟨pw, 2, none⟩ = some (.pointer (some ⟨(T false).r, 0, none⟩)) := by simp [World.cell?, hbx]
  have e3 : W.cell? ⟨pw, 3, none⟩ = some (.pointer (some ⟨(T true).r, 0, none⟩)) := by simp [World.cell?, hbx]
  have HE : Hid ((if k = true then W.cell? ⟨pw, 1, none⟩ = some (.pointer (some ⟨(T k).p, 0, none⟩)) ∧ W.cell? ⟨pw, 3, none⟩ = some (.pointer (some ⟨(T k).r, 0, none⟩)) else W.cell? ⟨pw, 0, none⟩ = some (.pointer (some ⟨(T k).p, 0, none⟩)) ∧ W.cell? ⟨pw, 2, none⟩ = some (.pointer (some ⟨(T k).r, 0, none⟩)))) := by
    cases k
    · exact ⟨e0, e2⟩
    · exact ⟨e1, e3⟩
  clear hW hWW hbW hl hls h0 hbs hbx e0 e1 e2 e3 hgx hWe hR
  have hC : Calls Try.prog 28 #[.pointer (some ⟨(T k).p, 0, none⟩)] W fun e w1 => e = .returned (.int .i64 ((T k).R.length : Nat)) ∧ Hid (∀ i u, W.cell? ⟨gx, i, none⟩ = some u → w1.cell? ⟨gx, i, none⟩ = some u) ∧ Hid (Calls Try.prog 52 #[.pointer (some ⟨(T k).r, 0, none⟩)] w1 fun e w2 => e = .returned (.int .i64 ((T k).R.length : Nat)) ∧ Ws base w2 pw (b + 1) ∧ Below base w w2) := by
    have hTb := HWo.out.tb k
    have hRl := HR.out k
    have hln := hRl.lnL
    have hl1 := hRl.ln
    have hl2 := hRl.lh
    have hl3 := hRl.ls
    refine (count10_any (T k).p (T k).bl (T k).bh (T k).L (T k).H W hTb).mono ?_
    rintro e w1 ⟨rfl, hw1⟩
    subst hw1
    refine ⟨by rw [hRl.perm.length_eq], fun i u hu => hu, ?_⟩
    refine (count2_any (T k).r _ (T k).R (T k).Hr w1 (HWo.out.rf k)).mono ?_
    rintro e w2 ⟨rfl, hw2⟩
    subst hw2
    exact ⟨rfl, HWs.out.same HBW.out, HBB.out⟩
  obtain ⟨V, hV⟩ : ∃ V, (T k).R.length = V := ⟨_, rfl⟩
  rw [hV] at hC
  clear hV
  obtain ⟨P, hP⟩ : ∃ P, (T k).p = P := ⟨_, rfl⟩
  obtain ⟨Q, hQ⟩ : ∃ P, (T k).r = P := ⟨_, rfl⟩
  rw [hP, hQ] at HE
  rw [hP, hQ] at hC
  clear hP hQ
  rw [show (opV (8, k, (k0, k1, k2, k3, k4), n)).toArray = #[.int .i64 8, .bool k, .int .i64 k0, .int .i64 k1, .int .i64 k2, .int .i64 k3, .int .i64 k4, .int .i64 n] from rfl]
  cases k <;>
  · have hE := HE.out
    simp only [if_true, Bool.false_eq_true, reduceIte] at hE
    obtain ⟨f0, f1⟩ := hE
    clear HE
    go_enter Try.func21, Try.ntmps21
    have hWg := HGx.out.2
    have hGg := HGx.out.1
    go_wp2_with fail
    refine hC.mono ?_
    rintro e w1 ⟨rfl, hKc, hN⟩
    have y2 := hKc.out 2 _ c2
    have y3 := hKc.out 3 _ c3
    have y4 := hKc.out 4 _ c4
    have y5 := hKc.out 5 _ c5
    have y6 := hKc.out 6 _ c6
    have y7 := hKc.out 7 _ c7
    clear c0 c1 c2 c3 c4 c5 c6 c7 f0 f1 hWg hGg hC
    go_wp2_with fail
    refine hN.out.mono ?_
    rintro e w2 ⟨rfl, hW2, hB2⟩
    have HW2 : Hid (Ws base w2 pw (b + 1)) := hW2
    have HB2 : Hid (Below base w w2) := hB2
    clear hW2 hB2 y2 y3 y4 y5 y6 y7 hN hKc
    go_wp2
    go_ret
    exact ⟨rfl, HW2.out, HB2.out⟩

set_option maxHeartbeats 8000000 in
set_option maxRecDepth 100000 in
theorem step_other (base pw b : Nat) (x : Opx) (w : World) (h : Ws base w pw b) (hb : b + 8 < 2199023255552) (hx : opOk x) (hkd : x.1 ≠ 1 ∧ x.1 ≠ 2 ∧ x.1 ≠ 3 ∧ x.1 ≠ 4 ∧ x.1 ≠ 5 ∧ x.1 ≠ 6 ∧ x.1 ≠ 7 ∧ x.1 ≠ 8) :
    Calls Try.prog 21 #[.pointer (some ⟨pw, 0, none⟩), .agg (opV x).toArray] w fun e w' => e = .returned (.bool true) ∧ Ws base w' pw (b + 1) ∧ Below base w w' := by
  have HWs : Hid (Ws base w pw b) := h
  obtain ⟨own, T, vo, vw, os, ws, ls, hW, hR, hl, hls, h0, hbs⟩ := h
  obtain ⟨kd, k, ⟨k0, k1, k2, k3, k4⟩, n⟩ := x
  obtain ⟨ok1, ok2, ok3⟩ := hx
  simp only at hkd ok1 ok2 ok3
  obtain ⟨z1, z2, z3, z4, z5, z6, z7, z8⟩ := hkd
  have y1 : (kd == 1) = false := by simp [z1]
  have y2 : (kd == 2) = false := by simp [z2]
  have y3 : (kd == 3) = false := by simp [z3]
  have y4 : (kd == 4) = false := by simp [z4]
  have y5 : (kd == 5) = false := by simp [z5]
  have y6 : (kd == 6) = false := by simp [z6]
  have y7 : (kd == 7) = false := by simp [z7]
  have y8 : (kd == 8) = false := by simp [z8]
  clear z1 z2 z3 z4 z5 z6 z7 z8
  obtain ⟨W, hWe⟩ : ∃ W, w.alloc (.cells #[.int .i64 kd, .bool k, .int .i64 k0, .int .i64 k1, .int .i64 k2, .int .i64 k3, .int .i64 k4, .int .i64 n] 53) = W := ⟨_, rfl⟩
  have hbW : Below w.heap.size w W := by rw [← hWe]; exact (Below.refl _ _).alloc (Nat.le_refl _) _
  have hWW := hW.same hbW
  obtain ⟨gx, hgx⟩ : ∃ g, w.heap.size = g := ⟨_, rfl⟩
  have hgW : gx < W.heap.size := by rw [← hgx, ← hWe]; simp
  have c0 : W.cell? ⟨gx, 0, none⟩ = some (.int .i64 kd) := by rw [← hWe, ← hgx]; simp
  have c1 : W.cell? ⟨gx, 1, none⟩ = some (.bool k) := by rw [← hWe, ← hgx]; simp
  have c2 : W.cell? ⟨gx, 2, none⟩ = some (.int .i64 k0) := by rw [← hWe, ← hgx]; simp
  have c3 : W.cell? ⟨gx, 3, none⟩ = some (.int .i64 k1) := by rw [← hWe, ← hgx]; simp
  have c4 : W.cell? ⟨gx, 4, none⟩ = some (.int .i64 k2) := by rw [← hWe, ← hgx]; simp
  have c5 : W.cell? ⟨gx, 5, none⟩ = some (.int .i64 k3) := by rw [← hWe, ← hgx]; simp
  have c6 : W.cell? ⟨gx, 6, none⟩ = some (.int .i64 k4) := by rw [← hWe, ← hgx]; simp
  have c7 : W.cell? ⟨gx, 7, none⟩ = some (.int .i64 n) := by rw [← hWe, ← hgx]; simp
  have HWo : Hid (Wo own W pw T vo vw os ws ls ls) := hWW
  have HBW : Hid (Below w.heap.size w W) := hbW
  have HBB : Hid (Below base w W) := below_dn hbW hbs
  have HR : Hid (∀ j, Rel (T j).L (T j).R (T j).H (T j).Hr b) := hR
  have HL : Hid (ls.length ≤ b ∧ ∀ l ∈ ls, l.length ≤ b ∧ ∀ y ∈ l, kW y) := ⟨hl, hls⟩
  have H0 : Hid ((∀ g, g < base → own g = 0) ∧ base ≤ W.heap.size ∧ base ≤ w.heap.size) := ⟨h0, Nat.le_trans hbs hbW.size, hbs⟩
  have HLt : Hid (∀ j, gx ≠ (T j).p ∧ gx ≠ (T j).bl ∧ gx ≠ (T j).bh ∧ gx ≠ (T j).r) := fun j => by
    have h1 := (hW.tb j).lts
    have h2 := (hW.rf j).lt
    omega
  have hbx := hWW.box
  have hpw := hWW.ltw
  have HGx : Hid (w.heap.size = gx ∧ w.alloc (.cells #[.int .i64 kd, .bool k, .int .i64 k0, .int .i64 k1, .int .i64 k2, .int .i64 k3, .int .i64 k4, .int .i64 n] 53) = W) := ⟨hgx, hWe⟩
  have e0 : W.cell? ⟨pw, 0, none⟩ = some (.pointer (some ⟨(T false).p, 0, none⟩)) := by simp [World.cell?, hbx]
  have e1 : W.cell? ⟨pw, 1, none⟩ = some (.pointer (some ⟨(T true).p, 0, none⟩)) := by simp [World.cell?, hbx]
  have e2 : W.cell? ⟨pw, 2, none⟩ = some (.pointer (some ⟨(T false).r, 0, none⟩)) := by simp [World.cell?, hbx]
  have e3 : W.cell? ⟨pw, 3, none⟩ = some (.pointer (some ⟨(T true).r, 0, none⟩)) := by simp [World.cell?, hbx]
  have HE : Hid ((if k = true then W.cell? ⟨pw, 1, none⟩ = some (.pointer (some ⟨(T k).p, 0, none⟩)) ∧ W.cell? ⟨pw, 3, none⟩ = some (.pointer (some ⟨(T k).r, 0, none⟩)) else W.cell? ⟨pw, 0, none⟩ = some (.pointer (some ⟨(T k).p, 0, none⟩)) ∧ W.cell? ⟨pw, 2, none⟩ = some (.pointer (some ⟨(T k).r, 0, none⟩)))) := by
    cases k
    · exact ⟨e0, e2⟩
    · exact ⟨e1, e3⟩
  clear hW hWW hbW hl hls h0 hbs hbx e0 e1 e2 e3 hgx hWe hR
  obtain ⟨P, hP⟩ : ∃ P, (T k).p = P := ⟨_, rfl⟩
  obtain ⟨Q, hQ⟩ : ∃ P, (T k).r = P := ⟨_, rfl⟩
  rw [hP, hQ] at HE
  clear hP hQ
  rw [show (opV (kd, k, (k0, k1, k2, k3, k4), n)).toArray = #[.int .i64 kd, .bool k, .int .i64 k0, .int .i64 k1, .int .i64 k2, .int .i64 k3, .int .i64 k4, .int .i64 n] from rfl]
  cases k <;>
  · have hE := HE.out
    simp only [if_true, Bool.false_eq_true, reduceIte] at hE
    obtain ⟨f0, f1⟩ := hE
    clear HE
    go_enter Try.func21, Try.ntmps21
    have hWg := HGx.out.2
    have hGg := HGx.out.1
    go_wp2
    go_ret
    exact ⟨rfl, HWs.out.same HBW.out, HBB.out⟩

end Go.Proofs.Ytnclfoljfnfglai
