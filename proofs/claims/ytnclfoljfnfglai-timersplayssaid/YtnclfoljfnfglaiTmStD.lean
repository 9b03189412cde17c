import Derived.Test.YtnclfoljfnfglaiTmWs
import Derived.Test.YtnclfoljfnfglaiTmGo
namespace Go.Proofs.Ytnclfoljfnfglai
open Go.RowKit Go.Maps
set_option linter.unusedVariables false

theorem Try.pinfo_sl : (Try.prog.info? 58).map (fun i => (i.zero, i.size, i.bytes)) = some (some (.slice none 0 0), 1, 24) := by kernel_rfl
set_option maxHeartbeats 8000000 in
set_option maxRecDepth 100000 in
theorem step_tick (base pw b : Nat) (x : Opx) (w : World) (h : Ws base w pw b) (hb : b + 8 < 2199023255552) (hx : opOk x) (hkd : x.1 = 6) :
    Calls Try.prog 21 #[.pointer (some ⟨pw, 0, none⟩), .agg (opV x).toArray] w fun e w' => e = .returned (.bool true) ∧ Ws base w' pw (b + 1) ∧ Below base w w' := by
  have HWs : Hid (Ws base w pw b) := h
  obtain ⟨own, T, vo, vw, os, ws, ls, hW, hR, hl, hls, h0, hbs⟩ := h
  obtain ⟨kd, k, ⟨k0, k1, k2, k3, k4⟩, n⟩ := x
  obtain ⟨ok1, ok2, ok3⟩ := hx
  simp only at hkd ok1 ok2 ok3
  subst hkd
  obtain ⟨W, hWe⟩ : ∃ W, w.alloc (.cells #[.int .i64 6, .bool k, .int .i64 k0, .int .i64 k1, .int .i64 k2, .int .i64 k3, .int .i64 k4, .int .i64 n] 53) = W := ⟨_, rfl⟩
  have hbW : Below w.heap.size w W := by rw [← hWe]; exact (Below.refl _ _).alloc (Nat.le_refl _) _
  have hWW := hW.same hbW
  obtain ⟨gx, hgx⟩ : ∃ g, w.heap.size = g := ⟨_, rfl⟩
  have hgW : gx < W.heap.size := by rw [← hgx, ← hWe]; simp
  have c0 : W.cell? ⟨gx, 0, none⟩ = some (.int .i64 6) := by rw [← hWe, ← hgx]; simp
  have c1 : W.cell? ⟨gx, 1, none⟩ = some (.bool k) := by rw [← hWe, ← hgx]; simp
  have c2 : W.cell? ⟨gx, 2, none⟩ = some (.int .i64 k0) := by rw [← hWe, ← hgx]; simp
  have c3 : W.cell? ⟨gx, 3, none⟩ = some (.int .i64 k1) := by rw [← hWe, ← hgx]; simp
  have c4 : W.cell? ⟨gx, 4, none⟩ = some (.int .i64 k2) := by rw [← hWe, ← hgx]; simp
  have c5 : W.cell? ⟨gx, 5, none⟩ = some (.int .i64 k3) := by rw [← hWe, ← hgx]; simp
  have c6 : W.cell? ⟨gx, 6, none⟩ = some (.int .i64 k4) := by rw [← hWe, ← hgx]; simp
  have c7 : W.cell? ⟨gx, 7, none⟩ = some (.int .i64 n) := by rw [← hWe, ← hgx]; simp
  have HWo : Hid (Wo own W pw T vo vw os ws ls ls) := hWW
  have HBW : Hid (Below w.heap.size w W) := hbW
  have HBB : Hid (Below base w W) := below_dn hbW hbs
  have HR : Hid (∀ j, Rel (T j).L (T j).R (T j).H (T j).Hr b) := hR
  have HL : Hid (ls.length ≤ b ∧ ∀ l ∈ ls, l.length ≤ b ∧ ∀ y ∈ l, kW y) := ⟨hl, hls⟩
  have H0 : Hid ((∀ g, g < base → own g = 0) ∧ base ≤ W.heap.size ∧ base ≤ w.heap.size) := ⟨h0, Nat.le_trans hbs hbW.size, hbs⟩
  have HLt : Hid (∀ j, gx ≠ (T j).p ∧ gx ≠ (T j).bl ∧ gx ≠ (T j).bh ∧ gx ≠ (T j).r) := fun j => by
    have h1 := (hW.tb j).lts
    have h2 := (hW.rf j).lt
    omega
  have hbx := hWW.box
  have hpw := hWW.ltw
  have HGx : Hid (w.heap.size = gx ∧ w.alloc (.cells #[.int .i64 6, .bool k, .int .i64 k0, .int .i64 k1, .int .i64 k2, .int .i64 k3, .int .i64 k4, .int .i64 n] 53) = W) := ⟨hgx, hWe⟩
  have e0 : W.cell? ⟨pw, 0, none⟩ = some (.pointer (some ⟨(T false).p, 0, none⟩)) := by simp [World.cell?, hbx]
  have e1 : W.cell? ⟨pw, 1, none⟩ = some (.pointer (some ⟨(T true).p, 0, none⟩)) := by simp [World.cell?, hbx]
  have e2 : W.cell? ⟨pw, 2, none⟩ = some (.pointer (some ⟨(T false).r, 0, none⟩)) := by simp [World.cell?, hbx]
  have e3 : W.cell? ⟨pw, 3, none⟩ = some (.pointer (some ⟨(T true).r, 0, none⟩)) := by simp [World.cell?, hbx]
  have HE : Hid ((if k = true then W.cell? ⟨pw, 1, none⟩ = some (.pointer (some ⟨(T k).p, 0, none⟩)) ∧ W.cell? ⟨pw, 3, none⟩ = some (.pointer (some ⟨(T k).r, 0, none⟩)) else W.cell? ⟨pw, 0, none⟩ = some (.pointer (some ⟨(T k).p, 0, none⟩)) ∧ W.cell? ⟨pw, 2, none⟩ = some (.pointer (some ⟨(T k).r, 0, none⟩)))) := by
    cases k
    · exact ⟨e0, e2⟩
    · exact ⟨e1, e3⟩
  clear hW hWW hbW hl hls h0 hbs hbx e0 e1 e2 e3 hgx hWe hR
  have hC : Calls Try.prog 33 #[.pointer (some ⟨(T k).p, 0, none⟩)] W fun e w1 => ∃ v1, e = .returned v1 ∧ Hid (Calls Try.prog 49 #[.pointer (some ⟨(T k).r, 0, none⟩)] w1 fun e w2 => ∃ u1, e = .returned u1 ∧ Hid (∃ own2 T2 l, Wo own2 w2 pw T2 vo vw os ws ls ls ∧ (∀ j, Rel (T2 j).L (T2 j).R (T2 j).H (T2 j).Hr (b + 1)) ∧ KR w2 0 v1 l ∧ KR w2 0 u1 l ∧ (∀ g, v1.ownBlock = some g → own2 g = 10 + os.length) ∧ (∀ g, u1.ownBlock = some g → own2 g = 9) ∧ (∀ g, g < base → own2 g = 0) ∧ base ≤ w2.heap.size ∧ l.length ≤ b ∧ (∀ y ∈ l, kW y) ∧ Below base w w2)) := by
    have hTb := HWo.out.tb k
    have hRl := HR.out k
    have hln := hRl.lnL
    have hl1 := hRl.ln
    have hl2 := hRl.lh
    have hl3 := hRl.ls
    refine (tick10_any (T k).p (T k).bl (T k).bh (T k).L (T k).H W hTb (by omega)).mono ?_
    rintro e w1 ⟨v1, rfl, hv1, hT1, hk1⟩
    obtain ⟨own1, W1, o1, o1'⟩ := HWo.out.prog1 k hk1 (fun g hg _ => by rw [show g = (T k).bl from hg]; exact (HWo.out.ot k).2.1) hT1
    have B1 : Below base W w1 := Kq.bas H0.out.1 H0.out.2.1 hk1 (fun g hg _ => by rw [show g = (T k).bl from hg, (HWo.out.ot k).2.1]; exact tgT_pos k)
    have z1 : ∀ g, g < base → own1 g = 0 := fun g hg => (o1 g (by have := H0.out.2.1; omega)).trans (H0.out.1 g hg)
    have z2 : base ≤ w1.heap.size := Nat.le_trans H0.out.2.1 hk1.size
    have hRf := W1.rfP
    refine ⟨v1, rfl, ?_⟩
    refine (tick2_any (T k).r _ (T k).R (T k).Hr w1 hRf (by omega) (by omega) (fun x hx => (hRl.ok x hx).2)).mono ?_
    rintro e w2 ⟨u1, rfl, hu1, hR2, hk2⟩
    obtain ⟨own2, W2, o2, o2'⟩ := W1.ref2 (v := u1) hk2 hR2 (fun g hg => (World.ownsRow.lt hu1 g hg).1)
    have B2 : Below base w1 w2 := Kq.bas z1 z2 hk2 (fun g hg _ => by
      rcases hg with hg | hg
      · rw [hg, W1.orP]; exact tgR_pos k
      · rw [hg]; exact tgR_pos k)
    have ho1 : ∀ g, v1.ownBlock = some g → own1 g = 10 + os.length := fun g hg => o1' g (World.ownsRow.lt hv1 g hg).1
    rw [← hRl.out] at hv1
    refine ⟨u1, rfl, own2, _, outS (T k).R (T k).Hr, W2, fun j => ?_, (hv1.base (Nat.zero_le _)).keep hk2 (fun g hg e => ?_), hu1.base (Nat.zero_le _), fun g hg => (o2 g (World.ownsRow.lt hv1 g hg).2).trans (ho1 g hg), o2', fun g hg => (o2 g (by omega)).trans (z1 g hg), Nat.le_trans z2 hk2.size, Nat.le_trans (outS_len _ _) hl1, hRl.outw, HBB.out.trans (B1.trans B2)⟩
    · by_cases e : j = k
      · subst e
        rw [upQ_same, upP_same]
        exact hRl.tick.mono (by omega)
      · rw [upQ_other _ _ _ e, upP_other _ _ _ e]
        exact (HR.out j).mono (by omega)
    · have q1 := ho1 g hg
      have q2 := tgR_or k
      rcases e with e | e
      · rw [e, W1.orP] at q1; omega
      · rw [e] at q1; omega
  obtain ⟨i1, hi1, hy0, hy1, hy2⟩ := info_parts Try.pinfo_sl
  obtain ⟨P, hP⟩ : ∃ P, (T k).p = P := ⟨_, rfl⟩
  obtain ⟨Q, hQ⟩ : ∃ P, (T k).r = P := ⟨_, rfl⟩
  rw [hP, hQ] at HE
  rw [hP, hQ] at hC
  clear hP hQ
  rw [show (opV (6, k, (k0, k1, k2, k3, k4), n)).toArray = #[.int .i64 6, .bool k, .int .i64 k0, .int .i64 k1, .int .i64 k2, .int .i64 k3, .int .i64 k4, .int .i64 n] from rfl]
  cases k <;>
  · have hE := HE.out
    simp only [if_true, Bool.false_eq_true, reduceIte] at hE
    obtain ⟨f0, f1⟩ := hE
    clear HE
    go_enter Try.func21, Try.ntmps21
    have hWg := HGx.out.2
    have hGg := HGx.out.1
    go_wp2_with fail
    refine hC.mono ?_
    rintro e w1 ⟨v1, rfl, hN⟩
    clear c0 c1 c2 c3 c4 c5 c6 c7 f0 f1 hWg hGg hC
    go_wp2_with fail
    refine hN.out.mono ?_
    rintro e w2 ⟨u1, rfl, hF⟩
    clear hN
    obtain ⟨own2, T2, l, hW2, hR2, hv1, hu1, tv1, tu1, z1, z2, hll, hlw, hB2⟩ := hF.out
    clear hF
    have HW2 : Hid (Wo own2 w2 pw T2 vo vw os ws ls ls) := hW2
    have HR2 : Hid (∀ j, Rel (T2 j).L (T2 j).R (T2 j).H (T2 j).Hr (b + 1)) := hR2
    have HV1 : Hid (KR w2 0 v1 l ∧ KR w2 0 u1 l ∧ (∀ g, v1.ownBlock = some g → own2 g = 10 + os.length) ∧ (∀ g, u1.ownBlock = some g → own2 g = 9)) := ⟨hv1, hu1, tv1, tu1⟩
    have HZ : Hid ((∀ g, g < base → own2 g = 0) ∧ base ≤ w2.heap.size ∧ (∀ y ∈ l, kW y) ∧ Below base w w2) := ⟨z1, z2, hlw, hB2⟩
    obtain ⟨av, cv, rfl⟩ := hv1.shape
    obtain ⟨au, cu, rfl⟩ := hu1.shape
    obtain ⟨ao, co, rfl⟩ := hW2.ro.shape
    obtain ⟨aw, cw, rfl⟩ := hW2.rw.shape
    obtain ⟨mo, hmo⟩ : ∃ m, os.length = m := ⟨_, rfl⟩
    obtain ⟨mw, hmw⟩ : ∃ m, ws.length = m := ⟨_, rfl⟩
    obtain ⟨ml, hml⟩ : ∃ m, l.length = m := ⟨_, rfl⟩
    have HMo : Hid (os.length = mo ∧ ws.length = mw ∧ l.length = ml ∧ mo ≤ b ∧ mw ≤ b) := ⟨hmo, hmw, hml, by have := hW2.lo; have := HL.out.1; omega, by have := hW2.lw; have := HL.out.1; omega⟩
    have hbx := hW2.box
    have hpw2 := hW2.ltw
    rw [hmo, hmw] at hbx
    have e4 : w2.cell? ⟨pw, 4, none⟩ = some (.slice ao mo co) := by simp [World.cell?, hbx]
    have fz4 : w2.frozen? ⟨pw, 4, none⟩ = false := frozen_of_row w2 pw 4 _ _ hbx
    rw [hmo, hmw] at HW2
    rw [hml] at HV1 ⊢
    clear hW2 hR2 hv1 hu1 tv1 tu1 z1 z2 hlw hB2 hbx hmo hmw hml
    go_upto_region 26 with (first
      | (at_builtin; refine wpList_append_own_at _ rfl _ _ 42 rfl 0 58 i1 (.slice none 0 0) 1 24 Try.underlying42 hi1 hy0 hy1 hy2 rfl (by decide) (.slice ao mo co) os.length os rfl (World.ownsRow.alloc HW2.out.ro _) ⟨w2.heap.size, 0, none⟩ 1 1 [.slice av ml cv] rfl rfl (one_new _ _ _) (by simp [Value.oneCell']) (by unfold maxLen; have := HMo.out; omega) (by have := HMo.out; omega) (by simp) ?_
         intro v6 w6 hown6 hgrow6 hnil6 hat6; clear hnil6
         have G6 : w2.grownBy w6 (Value.slice ao mo co).ownBlock := (World.grownBy_alloc w2 _ _).trans hgrow6
         have hb6 : w6.heap[pw]? = w2.heap[pw]? := G6.block pw hpw2 (fun e => by have := HW2.out.too pw e.symm; have h9 := HW2.out.opw; omega)
         have d4 : w6.cell? ⟨pw, 4, none⟩ = some (.slice ao mo co) := (World.cell?_of_block (a := ⟨pw, 4, none⟩) hb6).trans e4
         have g4 : w6.frozen? ⟨pw, 4, none⟩ = false := (World.frozen?_of_block (a := ⟨pw, 4, none⟩) hb6).trans fz4
         have HO6 : Hid (VR w6 v6 (os ++ [.slice av ml cv])) := by unfold Hid VR; rw [List.length_append]; exact hown6
         have HG6 : Hid (w2.grownBy w6 (Value.slice ao mo co).ownBlock ∧ (v6.ownBlock = (Value.slice ao mo co).ownBlock ∨ ∃ g, v6.ownBlock = some g ∧ w2.heap.size ≤ g)) := ⟨G6, hat6.imp id (fun e => ⟨_, e, by simp⟩)⟩
         clear hown6 hgrow6 hat6 G6 hb6
         obtain ⟨g6, cap6, hv6, _⟩ := HO6.out.some (by simp)
         obtain ⟨m6, hm6⟩ : ∃ m, (os ++ [Value.slice av ml cv]).length = m := ⟨_, rfl⟩
         rw [hm6] at hv6
         subst hv6
         clear hm6)
      | go_in)
    obtain ⟨X, hX⟩ : ∃ X, w6.setCell ⟨pw, 4, none⟩ (Value.slice (some ⟨g6, 0, none⟩) m6 cap6) = X := ⟨_, rfl⟩
    rw [hX]
    have hW3 := HW2.out.pushO HG6.out.1 HO6.out HG6.out.2 HV1.out.1 HV1.out.2.2.1
    have K3 : Kq (fun g => (Value.slice ao mo co).ownBlock = some g ∨ g = pw) w2 X := by rw [← hX]; exact ((Kq.refl _ w2).grown HG6.out.1 (fun g hg => .inl (.inl hg))).setC ⟨pw, 4, none⟩ _ (.inl (.inr rfl))
    have hu3 : KR X 0 (.slice au ml cu) l := HV1.out.2.1.keep K3 (fun g hg e => by
      have q1 := HV1.out.2.2.2 g hg
      rcases e with e | e
      · have := HW2.out.too g e; omega
      · have := HW2.out.opw; rw [e] at q1; omega)
    have hv3 : KR X 0 (.slice av ml cv) l := HV1.out.1.keep K3 (fun g hg e => by
      have q1 := HV1.out.2.2.1 g hg
      rcases e with e | e
      · have := HW2.out.too g e; omega
      · have := HW2.out.opw; rw [e] at q1; omega)
    rw [hX] at hW3
    have B3 : Below base w X := HZ.out.2.2.2.trans (Kq.bas HZ.out.1 HZ.out.2.1 K3 (fun g hg _ => by
      rcases hg with e | e
      · rw [HW2.out.too g e]; omega
      · rw [e, HW2.out.opw]; omega))
    have tu3 : ∀ g, (Value.slice au ml cu).ownBlock = some g → (if g < w2.heap.size then own2 g else 7) = 9 := fun g hg => by
      rw [if_pos (World.ownsRow.lt HV1.out.2.1 g hg).2]; exact HV1.out.2.2.2 g hg
    have z3 : ∀ g, g < base → (if g < w2.heap.size then own2 g else 7) = 0 := fun g hg => by
      rw [if_pos (by have := HZ.out.2.1; omega)]; exact HZ.out.1 g hg
    have z4 : base ≤ X.heap.size := Nat.le_trans HZ.out.2.1 K3.size
    obtain ⟨own3, ho3⟩ : ∃ o : Nat → Nat, (fun g => if g < w2.heap.size then own2 g else 7) = o := ⟨_, rfl⟩
    rw [ho3] at hW3
    have tu3' : ∀ g, (Value.slice au ml cu).ownBlock = some g → own3 g = 9 := fun g hg => by rw [← ho3]; exact tu3 g hg
    have z3' : ∀ g, g < base → own3 g = 0 := fun g hg => by rw [← ho3]; exact z3 g hg
    have HW3 : Hid (Wo own3 X pw T2 (Value.slice (some ⟨g6, 0, none⟩) m6 cap6) (.slice aw mw cw) (os ++ [.slice av ml cv]) ws (ls ++ [l]) ls) := hW3
    have HV3 : Hid (KR X 0 (.slice av ml cv) l ∧ KR X 0 (.slice au ml cu) l ∧ (∀ g, (Value.slice au ml cu).ownBlock = some g → own3 g = 9) ∧ (∀ g, g < base → own3 g = 0) ∧ base ≤ X.heap.size ∧ Below base w X) := ⟨hv3, hu3, tu3', z3', z4, B3⟩
    have HTv : Hid (∀ g, (Value.slice av ml cv).ownBlock = some g → own3 g = 10 + mo) := fun g hg => by
      rw [← ho3]
      show (if g < w2.heap.size then own2 g else 7) = _
      rw [if_pos (World.ownsRow.lt HV1.out.1 g hg).2, HV1.out.2.2.1 g hg, HMo.out.1]
    have hbx := hW3.box
    have hpX := hW3.ltw
    have e5 : X.cell? ⟨pw, 5, none⟩ = some (.slice aw mw cw) := by simp [World.cell?, hbx]
    have fz5 : X.frozen? ⟨pw, 5, none⟩ = false := frozen_of_row X pw 5 _ _ hbx
    have HLw : Hid (∀ y ∈ l, kW y) := HZ.out.2.2.1
    clear hW3 K3 hu3 hv3 B3 tu3 z3 z4 tu3' z3' ho3 hbx e4 fz4 d4 g4 hX HW2 HV1 HZ HO6 HG6 hpw2
    go_upto_region 27 with (first
      | (at_builtin; refine wpList_append_own_at _ rfl _ _ 42 rfl 0 58 i1 (.slice none 0 0) 1 24 Try.underlying42 hi1 hy0 hy1 hy2 rfl (by decide) (.slice aw mw cw) ws.length ws rfl (World.ownsRow.alloc HW3.out.rw _) ⟨X.heap.size, 0, none⟩ 1 1 [.slice au ml cu] rfl rfl (one_new _ _ _) (by simp [Value.oneCell']) (by unfold maxLen; have := HMo.out; omega) (by have := HMo.out; omega) (by simp) ?_
         intro v8 w8 hown8 hgrow8 hnil8 hat8; clear hnil8
         have G8 : X.grownBy w8 (Value.slice aw mw cw).ownBlock := (World.grownBy_alloc X _ _).trans hgrow8
         have hb8 : w8.heap[pw]? = X.heap[pw]? := G8.block pw hpX (fun e => by have := HW3.out.tww pw e.symm; have h9 := HW3.out.opw; omega)
         have d5 : w8.cell? ⟨pw, 5, none⟩ = some (.slice aw mw cw) := (World.cell?_of_block (a := ⟨pw, 5, none⟩) hb8).trans e5
         have g5 : w8.frozen? ⟨pw, 5, none⟩ = false := (World.frozen?_of_block (a := ⟨pw, 5, none⟩) hb8).trans fz5
         have HO8 : Hid (VR w8 v8 (ws ++ [.slice au ml cu])) := by unfold Hid VR; rw [List.length_append]; exact hown8
         have HG8 : Hid (X.grownBy w8 (Value.slice aw mw cw).ownBlock ∧ (v8.ownBlock = (Value.slice aw mw cw).ownBlock ∨ ∃ g, v8.ownBlock = some g ∧ X.heap.size ≤ g)) := ⟨G8, hat8.imp id (fun e => ⟨_, e, by simp⟩)⟩
         clear hown8 hgrow8 hat8 G8 hb8
         obtain ⟨g8, cap8, hv8, _⟩ := HO8.out.some (by simp)
         obtain ⟨m8, hm8⟩ : ∃ m, (ws ++ [Value.slice au ml cu]).length = m := ⟨_, rfl⟩
         rw [hm8] at hv8
         subst hv8
         clear hm8)
      | go_in)
    obtain ⟨Y, hY⟩ : ∃ Y, w8.setCell ⟨pw, 5, none⟩ (Value.slice (some ⟨g8, 0, none⟩) m8 cap8) = Y := ⟨_, rfl⟩
    rw [hY]
    have hW4 := HW3.out.pushW HG8.out.1 HO8.out HG8.out.2 HV3.out.2.1 HV3.out.2.2.1
    have K4 : Kq (fun g => (Value.slice aw mw cw).ownBlock = some g ∨ g = pw) X Y := by rw [← hY]; exact ((Kq.refl _ X).grown HG8.out.1 (fun g hg => .inl (.inl hg))).setC ⟨pw, 5, none⟩ _ (.inl (.inr rfl))
    have hu4 : KR Y 0 (.slice au ml cu) l := HV3.out.2.1.keep K4 (fun g hg e => by
      have q1 := HV3.out.2.2.1 g hg
      rcases e with e | e
      · have := HW3.out.tww g e; omega
      · have := HW3.out.opw; rw [e] at q1; omega)
    have hv4 : KR Y 0 (.slice av ml cv) l := HV3.out.1.keep K4 (fun g hg e => by
      have q1 := HTv.out g hg
      rcases e with e | e
      · have := HW3.out.tww g e; omega
      · have := HW3.out.opw; rw [e] at q1; omega)
    rw [hY] at hW4
    have B4 : Below base w Y := HV3.out.2.2.2.2.2.trans (Kq.bas HV3.out.2.2.2.1 HV3.out.2.2.2.2.1 K4 (fun g hg _ => by
      rcases hg with e | e
      · rw [HW3.out.tww g e]; omega
      · rw [e, HW3.out.opw]; omega))
    have z5 : base ≤ Y.heap.size := Nat.le_trans HV3.out.2.2.2.2.1 K4.size
    have hS := sameKeys_eq 0 0 l _ _ Y hv4 hu4 HLw.out (by omega)
    have HW4 : Hid _ := hW4
    have HB4 : Hid (Below base w Y ∧ base ≤ Y.heap.size) := ⟨B4, z5⟩
    have HZ4 : Hid (∀ g, g < base → (if g < X.heap.size then own3 g else 8) = 0) := fun g hg => by
      rw [if_pos (by have := HV3.out.2.2.2.2.1; omega)]; exact HV3.out.2.2.2.1 g hg
    clear hW4 K4 hu4 hv4 B4 z5 e5 fz5 d5 g5 hY
    go_wp2_with fail
    refine hS.mono ?_
    rintro e w9 ⟨rfl, q, hw9⟩
    have HY9 : Hid (Below Y.heap.size Y w9) := by rw [hw9]; exact below_drewN (Below.refl _ _) q
    clear hw9 hS
    go_wp2
    go_ret
    refine ⟨rfl, ⟨_, T2, _, _, _, _, _, HW4.out.same HY9.out, HR2.out, ?_, ?_, HZ4.out, Nat.le_trans HB4.out.2 HY9.out.size⟩, HB4.out.1.trans (below_dn HY9.out HB4.out.2)⟩
    · have := HL.out.1; simp; omega
    · intro l' hl'
      rcases List.mem_append.mp hl' with h | h
      · exact ⟨by have := (HL.out.2 l' h).1; omega, (HL.out.2 l' h).2⟩
      · rw [List.mem_singleton] at h
        subst h
        exact ⟨by have := HMo.out; omega, HLw.out⟩

end Go.Proofs.Ytnclfoljfnfglai
