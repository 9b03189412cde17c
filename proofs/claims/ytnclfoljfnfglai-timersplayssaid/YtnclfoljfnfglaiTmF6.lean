import Derived.Test.YtnclfoljfnfglaiTmRe
import Derived.Test.YtnclfoljfnfglaiTmMay
import Derived.Test.YtnclfoljfnfglaiTmSm
import Derived.StillTailTactics
namespace Go.Proofs.Ytnclfoljfnfglai
open Go.RowKit Go.Maps
set_option linter.unusedVariables false

/-! ## The reference's Start -/
theorem tv_set : ∀ (R : Tl) (i : Nat) (k : Kx) (c n : Int), R[i]? = some (k, c) → (R.set i (k, n)).flatMap tV = (R.flatMap tV).set (i * 6 + 5) (.int .i64 n)
  | [], i, k, c, n, h => by simp at h
  | s :: r, 0, k, c, n, h => by
    simp at h
    subst h
    simp [tV, kV]
  | s :: r, i + 1, k, c, n, h => by
    simp at h
    have := tv_set r i k c n h
    rw [List.set_cons_succ, List.flatMap_cons, List.flatMap_cons, this, List.set_append_right _ _ (by simp [tV, kV]; omega)]
    congr 2
    simp [tV, kV]
    omega
theorem TR.set {w : World} {base g n cap i : Nat} {R : Tl} {k : Kx} {c t : Int} (h : TR w base (.slice (Option.some ⟨g, 0, none⟩) n cap) R) (hi : R[i]? = Option.some (k, c)) : TR (w.setCell ⟨g, i * 6 + 5, none⟩ (.int .i64 t)) base (.slice (Option.some ⟨g, 0, none⟩) n cap) (R.set i (k, t)) := by
  have hn : n = R.length := by
    obtain ⟨_, ⟨e, _⟩ | ⟨g', cap', cur, e, _⟩⟩ := h
    · cases e
    · cases e; rfl
  subst hn
  unfold TR
  rw [List.length_set, tv_set R i k c t hi]
  exact (World.ownsRow.stored h (i * 6 + 5) (.int .i64 t)).1

theorem below_grown {W wr w8 : World} {row : Option Nat} (hb : Below W.heap.size W wr) (hg : wr.grownBy w8 row) (hr : ∀ g, row = some g → W.heap.size ≤ g) : Below W.heap.size W w8 :=
  ⟨hg.os.trans hb.os, hg.tape.trans hb.tape, hg.output.trans hb.output, Nat.le_trans hb.size hg.size, fun g hg' => (hg.block g (by have := hb.size; omega) (fun e => by have := hr g e.symm; omega)).trans (hb.block g hg')⟩
theorem below_up {w W X : World} (h : Below w.heap.size w W) (h' : Below W.heap.size W X) : Below w.heap.size w X :=
  h.trans ⟨h'.os, h'.tape, h'.output, h'.size, fun g hg => h'.block g (by have := h.size; omega)⟩
set_option maxHeartbeats 2000000 in
set_option maxRecDepth 100000 in
theorem start2_key (pr : Nat) (k : Kx) (n : Int) (w : World) (hk : ¬ mayK k) :
    Calls Try.prog 42 #[.pointer (some ⟨pr, 0, none⟩), kA k, .int .i64 n] w fun e w' => e = .returned (.int .i64 100) ∧ Below w.heap.size w w' := by
  have H1 := may2_any k (w.alloc (kO k))
  rw [decide_eq_false hk] at H1
  have HB : Hid (Below w.heap.size w ((w.alloc (kO k)).alloc (kO k))) := ((Below.refl w.heap.size w).alloc (Nat.le_refl _) _).alloc (by simp) _
  obtain ⟨W, hW⟩ : ∃ W, (w.alloc (kO k)).alloc (kO k) = W := ⟨_, rfl⟩
  rw [hW] at HB
  have HW : Hid ((w.alloc (kO k)).alloc (kO k) = W) := hW
  clear hW hk
  obtain ⟨a0, a1, a2, a3, a4⟩ := k
  go_enter Try.func42, Try.ntmps42
  go_wp2_with fail
  refine H1.mono ?_
  rintro e w' ⟨rfl, rfl⟩
  rw [HW.out]
  go_wp2
  go_ret
  exact ⟨rfl, HB.out⟩
set_option maxHeartbeats 2000000 in
set_option maxRecDepth 100000 in
theorem start2_tick (pr : Nat) (k : Kx) (n : Int) (w : World) (hk : mayK k) (hn : ¬ (1 ≤ n ∧ n ≤ 1048576)) :
    Calls Try.prog 42 #[.pointer (some ⟨pr, 0, none⟩), kA k, .int .i64 n] w fun e w' => e = .returned (.int .i64 1) ∧ Below w.heap.size w w' := by
  have H1 := may2_any k (w.alloc (kO k))
  rw [decide_eq_true hk] at H1
  have HB : Hid (Below w.heap.size w ((w.alloc (kO k)).alloc (kO k))) := ((Below.refl w.heap.size w).alloc (Nat.le_refl _) _).alloc (by simp) _
  obtain ⟨W, hW⟩ : ∃ W, (w.alloc (kO k)).alloc (kO k) = W := ⟨_, rfl⟩
  rw [hW] at HB
  have HW : Hid ((w.alloc (kO k)).alloc (kO k) = W) := hW
  clear hW hk
  obtain ⟨a0, a1, a2, a3, a4⟩ := k
  by_cases n1 : n < 1
  · clear hn
    go_enter Try.func42, Try.ntmps42
    go_wp2_with fail
    refine H1.mono ?_
    rintro e w' ⟨rfl, rfl⟩
    rw [HW.out]
    go_wp2
    go_ret
    exact ⟨rfl, HB.out⟩
  · have n2 : 1048576 < n := by omega
    clear hn
    go_enter Try.func42, Try.ntmps42
    go_wp2_with fail
    refine H1.mono ?_
    rintro e w' ⟨rfl, rfl⟩
    rw [HW.out]
    go_wp2
    go_ret
    exact ⟨rfl, HB.out⟩

set_option maxHeartbeats 16000000 in
set_option maxRecDepth 100000 in
theorem start2_ok (pr : Nat) (Fp : Nat → Prop) (R : Tl) (Hs : List Int) (k : Kx) (n : Int) (w : World) (h : Rf w pr Fp R Hs) (hl : R.length < 2199023255551) (hw : ∀ x ∈ R, kW x.1) (hk : mayK k) (hn : 1 ≤ n ∧ n ≤ 1048576) (hnd : (R.map Prod.fst).Nodup) :
    Calls Try.prog 42 #[.pointer (some ⟨pr, 0, none⟩), kA k, .int .i64 n] w fun e w' => e = .returned (.int .i64 0) ∧ Rf w' pr (grF Fp w w') (stR R k n) Hs ∧ Kq (fun g => g = pr ∨ Fp g) w w' := by
  have H1 := may2_any k (w.alloc (kO k))
  rw [decide_eq_true hk] at H1
  have HR : Hid (Rf w pr Fp R Hs) := h
  obtain ⟨W, hW⟩ : ∃ W, (w.alloc (kO k)).alloc (kO k) = W := ⟨_, rfl⟩
  have hbW : Below w.heap.size w W := by rw [← hW]; exact ((Below.refl w.heap.size w).alloc (Nat.le_refl _) _).alloc (by simp) _
  have HBW : Hid (Below w.heap.size w W) := hbW
  have hRW : Rf W pr Fp R Hs := h.keep (S := fun _ => False) (Kq.of_below hbW) (fun _ h => h.elim)
  have hF := find_any pr Fp R Hs k W hRW (by omega) hw hk.kW
  obtain ⟨m, hm⟩ : ∃ m, R.length = m := ⟨_, rfl⟩
  have HM : Hid (R.length = m) := hm
  rw [hm] at hl
  have hlt := h.lt
  have HNd : Hid (R.map Prod.fst).Nodup := hnd
  have HWf : Hid (∀ x ∈ R, kW x.1) := hw
  obtain ⟨i0, hi0, hz0, hz1, hz2⟩ := info_parts Try.pinfo_timer
  obtain ⟨k0, k1, k2, k3, k4⟩ := k
  have HWe : Hid ((w.alloc (kO (k0, k1, k2, k3, k4))).alloc (kO (k0, k1, k2, k3, k4)) = W) := hW
  have hws : w.heap.size + 2 = W.heap.size := by rw [← hW]; simp
  have c0 : W.cell? ⟨w.heap.size, 0, none⟩ = some (.int .i64 k0) := by rw [← hW]; simp
  have c1 : W.cell? ⟨w.heap.size, 1, none⟩ = some (.int .i64 k1) := by rw [← hW]; simp
  have c2 : W.cell? ⟨w.heap.size, 2, none⟩ = some (.int .i64 k2) := by rw [← hW]; simp
  have c3 : W.cell? ⟨w.heap.size, 3, none⟩ = some (.int .i64 k3) := by rw [← hW]; simp
  have c4 : W.cell? ⟨w.heap.size, 4, none⟩ = some (.int .i64 k4) := by rw [← hW]; simp
  have HC : Hid (W.cell? ⟨w.heap.size, 0, none⟩ = some (.int .i64 k0) ∧ W.cell? ⟨w.heap.size, 1, none⟩ = some (.int .i64 k1) ∧ W.cell? ⟨w.heap.size, 2, none⟩ = some (.int .i64 k2) ∧ W.cell? ⟨w.heap.size, 3, none⟩ = some (.int .i64 k3) ∧ W.cell? ⟨w.heap.size, 4, none⟩ = some (.int .i64 k4)) := ⟨c0, c1, c2, c3, c4⟩
  have HWs : Hid (w.heap.size + 2 = W.heap.size) := hws
  have n3 : ¬ n < 1 := by omega
  have n4 : ¬ 1048576 < n := by omega
  clear h hw hm hnd hbW hRW hW hk hn hws
  go_enter Try.func42, Try.ntmps42
  go_wp2_with fail
  refine H1.mono ?_
  rintro e w' ⟨rfl, rfl⟩
  rw [HWe.out]
  clear H1
  go_wp2_with fail
  refine hF.mono ?_
  rintro e w2 ⟨hor, hb2⟩
  have HB2 : Hid (Below w.heap.size w w2) := HBW.out.trans ⟨hb2.os, hb2.tape, hb2.output, hb2.size, fun g hg => hb2.block g (by have := HBW.out.size; omega)⟩
  have HB3 : Hid (Below W.heap.size W w2) := hb2
  clear hb2 hF
  rcases hor with ⟨i, rfl, ⟨c, hc⟩, _⟩ | ⟨rfl, hno⟩
  · have HC2 : Hid (R[i]? = some ((k0, k1, k2, k3, k4), c)) := hc
    have hRr : Rf w2 pr Fp R Hs := HR.out.keep (S := fun _ => False) (Kq.of_below HB2.out) (fun _ h => h.elim)
    obtain ⟨vl, vh, h1, h2, h3, h4, h5, h6⟩ := hRr.ex
    have him : i < m := by rw [← HM.out]; exact (List.getElem?_eq_some_iff.mp hc).1
    obtain ⟨gk, capk, ek, _, hgk⟩ := h2.some (by rw [HM.out]; omega)
    subst ek
    obtain ⟨_, _, _, _, _, q5⟩ := h2.cells hc
    have fz : w2.frozen? ⟨gk, i * 6 + 5, none⟩ = false := World.ownsRow.frozenAt h2 (i * 6 + 5)
    rw [HM.out] at h1 h2
    have e5 : w2.cell? ⟨pr, 0, none⟩ = some (.slice (some ⟨gk, 0, none⟩) m capk) := by simp [World.cell?, h1]
    have hz : (i : Int) < (m : Int) := by omega
    have hz0 : (0 : Int) ≤ (i : Int) := by omega
    simp only at q5
    have hgp : pr + 1 ≤ gk := (World.ownsRow.lt h2 gk rfl).1
    have K1 : Kq (· = gk) w2 (w2.setCell ⟨gk, i * 6 + 5, none⟩ (.int .i64 n)) := (Kq.refl _ _).setC ⟨gk, i * 6 + 5, none⟩ _ (.inl rfl)
    have HSt : Hid (Rf (w2.setCell ⟨gk, i * 6 + 5, none⟩ (.int .i64 n)) pr (grF Fp w (w2.setCell ⟨gk, i * 6 + 5, none⟩ (.int .i64 n))) (stR R (k0, k1, k2, k3, k4) n) Hs) := by
      have e8 : stR R (k0, k1, k2, k3, k4) n = R.set i ((k0, k1, k2, k3, k4), n) := by
        unfold stR
        rw [if_pos (List.mem_map.mpr ⟨_, List.mem_of_getElem? hc, rfl⟩), upR_setR HNd.out hc]
      show Rf _ _ _ _ _
      rw [e8]
      exact ⟨_, _, (K1.block pr hRr.lt (fun e => by have e' : pr = gk := e; omega)).trans h1, h2.set hc, IR.keep h3 K1 (fun g hg e => by have e' : g = gk := e; subst e'; exact h4 g rfl hg), fun g hg => h4 g hg, fun g hg => .inl (h5 g hg), fun g hg => .inl (h6 g hg)⟩
    have HKq : Hid (Kq (fun g => g = pr ∨ Fp g) w (w2.setCell ⟨gk, i * 6 + 5, none⟩ (.int .i64 n))) := (Kq.of_below HB2.out).setC ⟨gk, i * 6 + 5, none⟩ _ (.inl (.inr (h5 gk rfl)))
    clear hRr h1 h2 h3 h4 h5 h6 hc K1 c0 c1 c2 c3 c4
    go_wp2
    go_ret
    exact ⟨rfl, HSt.out, HKq.out⟩
  · have HNo : Hid ((k0, k1, k2, k3, k4) ∉ R.map Prod.fst) := hno
    have hm : Try.prog.follows .mixedOrders = true := by kernel_rfl
    obtain ⟨vl, vh, h1, h2, _⟩ := HR.out.ex
    obtain ⟨al, cl, rfl⟩ := h2.shape
    rw [HM.out] at h1 h2
    have E5 : Hid (w.cell? ⟨pr, 0, none⟩ = some (.slice al m cl)) := by show _ = _; simp [World.cell?, h1]
    have HP : Hid (w.heap[pr]? = some (.cells #[.slice al m cl, vh] 85 (0, 0))) := h1
    have HT2 : Hid (TR w (pr + 1) (.slice al m cl) R) := h2
    clear hno c0 c1 c2 c3 c4 h1 h2
    go_wp2
    go_loopw [9, 10, 8] (fun u9 u10 v wr => ∃ (j : Nat) (A : Tl) (b : Bool), u10 = .bool b ∧ v = .int .i64 j ∧ j ≤ m ∧ (R.take j).foldl (insS (k0, k1, k2, k3, k4) n) ([], false) = (A, b) ∧ TR wr W.heap.size u9 A ∧ Below W.heap.size W wr) (fun _ _ v _ => m - (intOf v).toNat)
    case atStart => exact ⟨0, [], false, rfl, rfl, by omega, rfl, tr_nil _ _, HB3.out⟩
    case round =>
      obtain ⟨j, A, b, rfl, rfl, hj, hAb, htr, hbr⟩ := hrel
      have HAb : Hid ((R.take j).foldl (insS (k0, k1, k2, k3, k4) n) ([], false) = (A, b)) := hAb
      have HTr : Hid (TR wr W.heap.size _ A) := htr
      have HBr : Hid (Below W.heap.size W wr) := hbr
      have HBw : Hid (Below w.heap.size w wr) := below_up HBW.out hbr
      obtain ⟨au, cu, hu6⟩ := HTr.out.shape
      have hAl : A.length ≤ j + 1 := by have := insS_le (k0, k1, k2, k3, k4) n R j; rw [hAb] at this; exact this
      obtain ⟨mu, hmu⟩ : ∃ n, A.length = n := ⟨_, rfl⟩
      have HMu : Hid (A.length = mu) := hmu
      rw [hmu] at hu6 hAl
      subst hu6
      have e5 := tm_cell E5.out HBw.out
      have fz5 : wr.frozen? ⟨pr, 0, none⟩ = false := frozen_of_row wr pr 0 _ _ ((HBw.out.block pr hlt).trans HP.out)
      have hbs : W.heap.size ≤ wr.heap.size := HBr.out.size
      clear hAb htr hbr hmu
      by_cases hjm : j = m
      · subst hjm
        have hz : ¬ (j : Int) < (j : Int) := by omega
        have hfin : insF (k0, k1, k2, k3, k4) n (A, b) = stR R (k0, k1, k2, k3, k4) n := by
          have := insS_fold (k0, k1, k2, k3, k4) n R []
          have e9 : R.take j = R := by rw [← HM.out, List.take_length]
          have e10 := HAb.out
          rw [e9] at e10
          rw [e10, List.nil_append] at this
          unfold stR
          rw [if_neg HNo.out]
          exact this
        have HFin : Hid (insF (k0, k1, k2, k3, k4) n (A, b) = stR R (k0, k1, k2, k3, k4) n) := hfin
        clear hfin
        cases b with
        | true =>
          have hst := HR.out.setL (R' := stR R (k0, k1, k2, k3, k4) n) HBw.out (by have := HTr.out.base HBW.out.size; rw [← HFin.out]; exact this)
          have HSt : Hid _ := hst
          clear hst
          go_wp2
          go_ret
          exact ⟨rfl, HSt.out.1, HSt.out.2⟩
        | false =>
          have d0 := tm_cell HC.out.1 HBr.out
          have d1 := tm_cell HC.out.2.1 HBr.out
          have d2 := tm_cell HC.out.2.2.1 HBr.out
          have d3 := tm_cell HC.out.2.2.2.1 HBr.out
          have d4 := tm_cell HC.out.2.2.2.2 HBr.out
          go_wp2_with (first
            | (at_builtin; refine wpList_append_own_at _ rfl _ _ 83 rfl W.heap.size 90 i0 (.agg #[.int .i64 0, .int .i64 0, .int .i64 0, .int .i64 0, .int .i64 0, .int .i64 0]) 6 48 Try.underlying83 hi0 hz0 hz1 hz2 rfl (by decide) (.slice au mu cu) A.length (A.flatMap tV) rfl (World.ownsRow.alloc HTr.out _) ⟨wr.heap.size, 0, none⟩ 1 1 [.int .i64 k0, .int .i64 k1, .int .i64 k2, .int .i64 k3, .int .i64 k4, .int .i64 n] rfl rfl (six_new _ _ _ _ _ _ _ _) (by simp [Value.oneCell']) (by unfold maxLen; have := HMu.out; omega) (by have := HMu.out; omega) (by simp; omega) ?_
               intro v8 w8 hown8 hgrow8 hnil8 hloc8; clear hnil8 hloc8
               have B8 : Below W.heap.size W w8 := below_grown HBr.out ((World.grownBy_alloc wr _ (Value.slice au mu cu).ownBlock).trans hgrow8) (fun g hg => (World.ownsRow.lt HTr.out g hg).1)
               have HB8 : Hid (Below w.heap.size w w8) := below_up HBW.out B8
               have y1 := tm_cell E5.out HB8.out
               have fy1 : w8.frozen? ⟨pr, 0, none⟩ = false := frozen_of_row w8 pr 0 _ _ ((HB8.out.block pr hlt).trans HP.out)
               have HT8 : Hid (TR w8 W.heap.size v8 (A ++ [((k0, k1, k2, k3, k4), n)])) := TR.app hown8
               clear hown8 hgrow8 B8
               obtain ⟨g8, cap8, hv8, _, _⟩ := HT8.out.some (by simp)
               obtain ⟨m8, hm8⟩ : ∃ m, (A ++ [((k0, k1, k2, k3, k4), n)]).length = m := ⟨_, rfl⟩
               rw [hm8] at hv8
               subst hv8
               clear hm8)
            | go_in)
          go_ret
          have hst := HR.out.setL (R' := stR R (k0, k1, k2, k3, k4) n) HB8.out (by have := HT8.out.base HBW.out.size; rw [← HFin.out]; exact this)
          exact ⟨rfl, hst.1, hst.2⟩
      · have hz : (j : Int) < (m : Int) := by omega
        have hwj : IntKind.i64.wrap ((j : Int) + 1) = (j : Int) + 1 := by rw [IntKind.wrap_i64]; omega
        obtain ⟨⟨x, c⟩, hx⟩ : ∃ x, R[j]? = some x := ⟨_, List.getElem?_eq_getElem (by rw [HM.out]; omega)⟩
        have HTk : Hid ((R.take (j + 1)).foldl (insS (k0, k1, k2, k3, k4) n) ([], false) = insS (k0, k1, k2, k3, k4) n (A, b) (x, c)) := by
          show _ = _
          rw [List.take_add_one, hx, List.foldl_append, HAb.out]
          rfl
        obtain ⟨gk, capk, ek, _, _⟩ := HT2.out.some (by rw [HM.out]; omega)
        obtain ⟨rfl, hmm, rfl⟩ : al = some ⟨gk, 0, none⟩ ∧ m = R.length ∧ cl = capk := by simpa using ek
        obtain ⟨q0, q1, q2, q3, q4, q5⟩ := HT2.out.cells hx
        obtain ⟨x0, x1, x2, x3, x4⟩ := x
        simp only at q0 q1 q2 q3 q4 q5
        have HQ : Hid (∀ X, Below w.heap.size w X → X.cell? ⟨gk, j * 6, none⟩ = some (.int .i64 x0) ∧ X.cell? ⟨gk, j * 6 + 1, none⟩ = some (.int .i64 x1) ∧ X.cell? ⟨gk, j * 6 + 2, none⟩ = some (.int .i64 x2) ∧ X.cell? ⟨gk, j * 6 + 3, none⟩ = some (.int .i64 x3) ∧ X.cell? ⟨gk, j * 6 + 4, none⟩ = some (.int .i64 x4) ∧ X.cell? ⟨gk, j * 6 + 5, none⟩ = some (.int .i64 c)) :=
          fun X hX => ⟨tm_cell q0 hX, tm_cell q1 hX, tm_cell q2 hX, tm_cell q3 hX, tm_cell q4 hX, tm_cell q5 hX⟩
        clear q0 q1 q2 q3 q4 q5 hx ek hmm
        have hBf := before_any (k0, k1, k2, k3, k4) (x0, x1, x2, x3, x4) wr.drew
        obtain ⟨bf, hbf⟩ : ∃ b, ltK (k0, k1, k2, k3, k4) (x0, x1, x2, x3, x4) = b := ⟨_, rfl⟩
        rw [hbf] at hBf
        have HBf : Hid (ltK (k0, k1, k2, k3, k4) (x0, x1, x2, x3, x4) = bf) := hbf
        clear hbf
        obtain ⟨q0, q1, q2, q3, q4, q5⟩ := HQ.out wr HBw.out
        have d0 := tm_cell HC.out.1 HBr.out
        have d1 := tm_cell HC.out.2.1 HBr.out
        have d2 := tm_cell HC.out.2.2.1 HBr.out
        have d3 := tm_cell HC.out.2.2.2.1 HBr.out
        have d4 := tm_cell HC.out.2.2.2.2 HBr.out
        go_wp2_with fail
        refine wp_region_still_tail 9 hm (by kernel_rfl) ?_
        simp only [List.take_succ_cons, List.take_zero, List.drop_succ_cons, List.drop_zero]
        still_step
        still_step
        still_step
        still_step
        still_step
        still_step
        still_step
        still_step
        still_step
        refine wpStill_nil ?_
        show wpList _ _ _ _ _ wr.drew
        clear q0 q1 q2 q3 q4 q5 d0 d1 d2 d3 d4 e5 fz5
        go_wp2_with fail
        refine hBf.mono ?_
        rintro e w3 ⟨rfl, hb3⟩
        have B3 : Below W.heap.size W w3 := below_grown (wr := wr) (row := none) HBr.out ⟨hb3.os, hb3.tape, hb3.output, hb3.size, fun g hg _ => hb3.block g hg⟩ (fun g hg => by cases hg)
        have HB3' : Hid (Below W.heap.size W w3) := B3
        have HBw3 : Hid (Below w.heap.size w w3) := below_up HBW.out B3
        have HTr3 : Hid (TR w3 W.heap.size (.slice au mu cu) A) := HTr.out.keep (S := fun _ => False) (Kq.of_below ⟨hb3.os, hb3.tape, hb3.output, hb3.size, fun g hg => hb3.block g hg⟩) (fun _ _ h => h)
        obtain ⟨q0, q1, q2, q3, q4, q5⟩ := HQ.out w3 HBw3.out
        have d0 := tm_cell HC.out.1 HB3'.out
        have d1 := tm_cell HC.out.2.1 HB3'.out
        have d2 := tm_cell HC.out.2.2.1 HB3'.out
        have d3 := tm_cell HC.out.2.2.2.1 HB3'.out
        have d4 := tm_cell HC.out.2.2.2.2 HB3'.out
        have e5 := tm_cell E5.out HBw3.out
        have hbs3 : W.heap.size ≤ w3.heap.size := HB3'.out.size
        clear hb3 B3 hBf HBr HBw HTr hbs
        by_cases hcase : bf = true ∧ b = false
        · obtain ⟨rfl, rfl⟩ := hcase
          have HIn : Hid (insS (k0, k1, k2, k3, k4) n (A, false) ((x0, x1, x2, x3, x4), c) = ((A ++ [((k0, k1, k2, k3, k4), n)]) ++ [((x0, x1, x2, x3, x4), c)], true)) := by
            show _ = _
            unfold insS
            rw [if_pos ⟨HBf.out, rfl⟩]
          go_wp2_with (first
            | (at_builtin; refine wpList_append_own_at _ rfl _ _ 83 rfl W.heap.size 90 i0 (.agg #[.int .i64 0, .int .i64 0, .int .i64 0, .int .i64 0, .int .i64 0, .int .i64 0]) 6 48 Try.underlying83 hi0 hz0 hz1 hz2 rfl (by decide) (.slice au mu cu) A.length (A.flatMap tV) rfl (World.ownsRow.alloc HTr3.out _) ⟨w3.heap.size, 0, none⟩ 1 1 [.int .i64 k0, .int .i64 k1, .int .i64 k2, .int .i64 k3, .int .i64 k4, .int .i64 n] rfl rfl (six_new _ _ _ _ _ _ _ _) (by simp [Value.oneCell']) (by unfold maxLen; have := HMu.out; omega) (by have := HMu.out; omega) (by simp; omega) ?_
               intro v8 w8 hown8 hgrow8 hnil8 hloc8; clear hnil8 hloc8
               have B8 : Below W.heap.size W w8 := below_grown HB3'.out ((World.grownBy_alloc w3 _ (Value.slice au mu cu).ownBlock).trans hgrow8) (fun g hg => (World.ownsRow.lt HTr3.out g hg).1)
               have HB8 : Hid (Below W.heap.size W w8) := B8
               have HBw8 : Hid (Below w.heap.size w w8) := below_up HBW.out B8
               have y1 := tm_cell E5.out HBw8.out
               have HT8 : Hid (TR w8 W.heap.size v8 (A ++ [((k0, k1, k2, k3, k4), n)])) := TR.app hown8
               have hbs8 : W.heap.size ≤ w8.heap.size := B8.size
               clear hown8 hgrow8 B8 q0 q1 q2 q3 q4 q5 d0 d1 d2 d3 d4 e5
               obtain ⟨q0, q1, q2, q3, q4, q5⟩ := HQ.out w8 HBw8.out
               obtain ⟨g8, cap8, hv8, _, _⟩ := HT8.out.some (by simp)
               obtain ⟨m8, hm8⟩ : ∃ m, (A ++ [((k0, k1, k2, k3, k4), n)]).length = m := ⟨_, rfl⟩
               have HM8 : Hid ((A ++ [((k0, k1, k2, k3, k4), n)]).length = m8) := hm8
               have hm9 : m8 = mu + 1 := by rw [← hm8, ← HMu.out]; simp
               have hm10 : m8 ≤ j + 2 := by omega
               rw [hm8] at hv8
               subst hv8
               clear hm8 hm9)
            | (at_builtin; refine wpList_append_own_at _ rfl _ _ 83 rfl W.heap.size 90 i0 (.agg #[.int .i64 0, .int .i64 0, .int .i64 0, .int .i64 0, .int .i64 0, .int .i64 0]) 6 48 Try.underlying83 hi0 hz0 hz1 hz2 rfl (by decide) (.slice (some ⟨g8, 0, none⟩) m8 cap8) (A ++ [((k0, k1, k2, k3, k4), n)]).length ((A ++ [((k0, k1, k2, k3, k4), n)]).flatMap tV) rfl (World.ownsRow.alloc HT8.out _) ⟨w8.heap.size, 0, none⟩ 1 1 [.int .i64 x0, .int .i64 x1, .int .i64 x2, .int .i64 x3, .int .i64 x4, .int .i64 c] rfl rfl (six_new _ _ _ _ _ _ _ _) (by simp [Value.oneCell']) (by unfold maxLen; have := HM8.out; omega) (by have := HM8.out; omega) (by simp; omega) ?_
               intro v9 w9 hown9 hgrow9 hnil9 hloc9; clear hnil9 hloc9
               have HB9 : Hid (Below W.heap.size W w9) := below_grown HB8.out ((World.grownBy_alloc w8 _ (Value.slice (some ⟨g8, 0, none⟩) m8 cap8).ownBlock).trans hgrow9) (fun g hg => (World.ownsRow.lt HT8.out g hg).1)
               have HT9 : Hid (TR w9 W.heap.size v9 ((A ++ [((k0, k1, k2, k3, k4), n)]) ++ [((x0, x1, x2, x3, x4), c)])) := TR.app hown9
               clear hown9 hgrow9)
            | go_in)
          exact ⟨⟨j + 1, _, true, rfl, by simp, by omega, HTk.out.trans HIn.out, HT9.out, HB9.out⟩, by simp [intOf]; omega⟩
        · have HIn : Hid (insS (k0, k1, k2, k3, k4) n (A, b) ((x0, x1, x2, x3, x4), c) = (A ++ [((x0, x1, x2, x3, x4), c)], b)) := by
            show _ = _
            unfold insS
            rw [if_neg (fun e => hcase ⟨HBf.out.symm.trans e.1, e.2⟩)]
          have hcs : bf = false ∨ (bf = true ∧ b = true) := by cases bf <;> cases b <;> simp_all
          clear hcase
          rcases hcs with rfl | ⟨rfl, rfl⟩ <;>
          · go_wp2_with (first
              | (at_builtin; refine wpList_append_own_at _ rfl _ _ 83 rfl W.heap.size 90 i0 (.agg #[.int .i64 0, .int .i64 0, .int .i64 0, .int .i64 0, .int .i64 0, .int .i64 0]) 6 48 Try.underlying83 hi0 hz0 hz1 hz2 rfl (by decide) (.slice au mu cu) A.length (A.flatMap tV) rfl (World.ownsRow.alloc HTr3.out _) ⟨w3.heap.size, 0, none⟩ 1 1 [.int .i64 x0, .int .i64 x1, .int .i64 x2, .int .i64 x3, .int .i64 x4, .int .i64 c] rfl rfl (six_new _ _ _ _ _ _ _ _) (by simp [Value.oneCell']) (by unfold maxLen; have := HMu.out; omega) (by have := HMu.out; omega) (by simp; omega) ?_
                 intro v9 w9 hown9 hgrow9 hnil9 hloc9; clear hnil9 hloc9
                 have HB9 : Hid (Below W.heap.size W w9) := below_grown HB3'.out ((World.grownBy_alloc w3 _ (Value.slice au mu cu).ownBlock).trans hgrow9) (fun g hg => (World.ownsRow.lt HTr3.out g hg).1)
                 have HT9 : Hid (TR w9 W.heap.size v9 (A ++ [((x0, x1, x2, x3, x4), c)])) := TR.app hown9
                 clear hown9 hgrow9)
              | go_in)
            exact ⟨⟨j + 1, _, _, rfl, by simp, by omega, HTk.out.trans HIn.out, HT9.out, HB9.out⟩, by simp [intOf]; omega⟩

end Go.Proofs.Ytnclfoljfnfglai
