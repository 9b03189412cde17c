import Derived.Test.YtppkdkbdcdjikacWkR
import Derived.Test.YtppkdkbdcdjikacStp
import Derived.Deep.RegionHeld3
import Derived.Deep.CutRange
namespace Go.Proofs.Ytppkdkbdcdjikac
open Go.RowKit Go.Shelf
attribute [local go_sem] Oper.semAt_some

/-- An outcome that is no panic. -/
def calm (Q : Exit → Act → World → Prop) : Exit → Act → World → Prop
  | .panic _, _, _ => False
  | e, a, w => Q e a w
theorem calm_le {Q : Exit → Act → World → Prop} {e : Exit} {a : Act} {w : World} (h : calm Q e a w) : Q e a w := by
  cases e <;> first | exact h | exact h.elim
theorem heapC {W : World} {i : Nat} {o : Obj} (h : W.heap[i]? = some o) (ob : Obj) : (W.alloc ob).heap[i]? = some o :=
  (Below.heap_alloc W ob i (by obtain ⟨hi, _⟩ := Array.getElem?_eq_some_iff.mp h; exact hi)).trans h

theorem SOwn.ls_hd {W : World} {base g cap N n c : Nat} {L : List Sp} (h : SOwn W base (.slice (some ⟨g, 0, none⟩) N cap) L) (hn : n ≤ N) (hc : n ≤ c) (hc2 : c ≤ 9223372036854775807) : Ls W (.slice (some ⟨g, 0, none⟩) n c) (L.take n) := by
  have hl := h.lenEq
  have ht : (L.take n).length = n := by simp; omega
  refine ⟨⟨some ⟨g, 0, none⟩, c, by rw [ht], ?_, by rw [ht]; exact hc, hc2⟩, by rw [ht]; omega⟩
  rcases h.spa with h0 | ⟨g', off, ha, hcell⟩
  · left; rw [h0]; simp
  · right
    refine ⟨g', off, ha, fun i p hp => ?_⟩
    rw [List.getElem?_take] at hp
    split at hp
    · exact hcell i p hp
    · cases hp

theorem func_nil (Bs Bl : Nat) (w : World) : (binOp BinOp.eql 43 (.func (.func 46) #[] #[.pointer (some ⟨Bs, 0, none⟩), .pointer (some ⟨Bl, 0, none⟩)]) .nilFunc).run Try.prog w = .ok (.bool false) w := by kernel_rfl

set_option maxRecDepth 100000 in
set_option maxHeartbeats 8000000 in
theorem walks_in (aa : Option Addr) (ca : Nat) (l : List Sp) (f t stop : Int) (w : World) (ha : Ls w (.slice aa l.length ca) l) (ma : l.length ≤ 1048576) (n : Nat) (hn : 9 ≤ n) :
    CallsIn Fence.wide n Try.prog 6 #[.slice aa l.length ca, .agg #[.int .i64 f, .int .i64 t], .int .i64 stop] w (fun e w' => e = .returned (.bool true) ∧ Below w.heap.size w w') := by
  have h1 : 1 ≤ n := by omega
  have HA : Hid (∀ W, Below w.heap.size w W → Ls W (.slice aa l.length ca) l) := fun W hW => ha.below hW
  obtain ⟨W0, hW0⟩ : ∃ W0, W0 = (w.alloc (.cells #[.int .i64 f, .int .i64 t] 24)).alloc (.cells #[.int .i64 stop] 3) := ⟨_, rfl⟩
  have HB0 : Hid (Below w.heap.size w W0) := by rw [hW0]; exact ((Below.refl _ _).alloc (Nat.le_refl _) _).alloc (by simp) _
  have x0 : W0.heap[w.heap.size]? = some (.cells #[.int .i64 f, .int .i64 t] 24 (0, 0)) := by rw [hW0]; exact heapC (heap_alloc_new' _ _) _
  have x1 : W0.heap[w.heap.size + 1]? = some (.cells #[.int .i64 stop] 3 (0, 0)) := by
    have := heap_alloc_new' (w.alloc (.cells #[.int .i64 f, .int .i64 t] 24)) (.cells #[.int .i64 stop] 3)
    rw [World.size_alloc] at this; rw [hW0]; exact this
  have HSz : Hid (W0.heap.size = w.heap.size + 2) := by show _ = _; rw [hW0]; simp
  have hsz := HSz.out
  refine callsIn_of_wp_marks Try.func6 rfl trivial ?_ rfl
  simp only [Try.ntmps6, List.size_toArray, List.length_cons, List.length_nil, Nat.reduceAdd, Nat.reduceSub, Array.replicate_succ, Array.replicate_zero, List.push_toArray, List.append_toArray, List.nil_append, List.cons_append]
  refine wpIn_wide.2 (Code.wp_mono (fun _ _ _ h => calm_le h) ?_)
  clear ha
  go_wp2_with fail
  rw [← hW0]
  clear hW0
  have HX : Hid (∀ W, Below W0.heap.size W0 W → W.heap[w.heap.size]? = some (.cells #[.int .i64 f, .int .i64 t] 24 (0, 0)) ∧ W.heap[w.heap.size + 1]? = some (.cells #[.int .i64 stop] 3 (0, 0))) := fun W hW => ⟨(hW.block _ (by omega)).trans x0, (hW.block _ (by omega)).trans x1⟩
  clear x0 x1 hsz
  refine (lent_any (HA.out W0 HB0.out) ma).mono ?_
  rintro e w1 ⟨rfl, hs1, hb1⟩
  have HW1 : Hid (Below w.heap.size w w1) := HB0.out.trans (hb1.mono HB0.out.size)
  have HY1 : Hid (Below W0.heap.size W0 w1) := hb1
  have OA : Hid (SOwn w1 W0.heap.size (.slice (some ⟨W0.heap.size, 0, none⟩) (l.length + 2) (l.length + 2)) (mkd l)) := hs1
  have pA : W0.heap.size < w1.heap.size := (hs1.lt _ rfl).2
  clear hb1 hs1 HB0
  have c0 := cell_of_row _ _ 0 _ _ _ (HX.out w1 HY1.out).1
  have c1 := cell_of_row _ _ 1 _ _ _ (HX.out w1 HY1.out).1
  simp only [List.getElem?_toArray, List.getElem?_cons_zero, List.getElem?_cons_succ] at c0 c1
  go_wp2_with fail
  have HLS : Hid (∀ W, SOwn W W0.heap.size (.slice (some ⟨W0.heap.size, 0, none⟩) (l.length + 2) (l.length + 2)) (mkd l) → Calls Try.prog 21 #[.slice (some ⟨W0.heap.size, 0, none⟩) l.length (l.length + 2), .agg #[.int .i64 f, .int .i64 t]] W (WalkAll l f t W)) := fun W hW => walk_all f t (by have := hW.ls_hd (n := l.length) (c := l.length + 2) (by omega) (by omega) (by omega); rw [show (mkd l).take l.length = l by simp [mkd]] at this; exact this)
  have OAD : Hid (SOwn w1.drew W0.heap.size (.slice (some ⟨W0.heap.size, 0, none⟩) (l.length + 2) (l.length + 2)) (mkd l)) := SOwn.drewN OA.out 1
  go_cut [8] from 20 to 25 (fun q wx => ∃ (Bs Bl : Nat) (a2 : Option Addr) (cc2 : Nat) (xs : List Sp) (s1 s2 : Int), q = .func (.func 46) #[] #[.pointer (some ⟨Bs, 0, none⟩), .pointer (some ⟨Bl, 0, none⟩)] ∧ Hid (Below w1.heap.size w1 wx) ∧ Hid (wx.heap[Bs]? = some (.cells #[.int .i64 s1, .int .i64 s2] 24 (0, 0)) ∧ wx.heap[Bl]? = some (.cells #[.slice a2 xs.length cc2] 22 (0, 0)) ∧ SOwn wx w1.heap.size (.slice a2 xs.length cc2) xs ∧ w1.heap.size ≤ Bs ∧ w1.heap.size ≤ Bl ∧ Bs ≠ Bl) ∧ Hid (xs.length ≤ 2000 ∧ wks l f t (pc s2 s1 xs)))
  case first =>
    have v0 : (0 : Int) ≤ (l.length : Int) := by omega
    have v1 : (l.length : Int) ≤ ((l.length + 2 : Nat) : Int) := by omega
    have v2 : (l.length : Int) ≤ (l.length : Int) + 2 := by omega
    have v3 : ¬ l.length + 2 = 0 := by omega
    go_region_held3 (fun V => V.cell? ⟨w.heap.size, 0, none⟩ = some (.int .i64 f) ∧ V.cell? ⟨w.heap.size, 1, none⟩ = some (.int .i64 t)) (first | (exact ⟨c0, c1⟩) | (exact ⟨d0, d1⟩)) (first
      | (go_at_call 21
         refine (HLS.out _ OAD.out).mono ?_
         rintro e w2 ⟨Bs, Bl, a2, cc2, xs, s1, s2, rfl, hs1, hs2, hs3, hs4, hs5, hs6, hb2, hx1, hx2⟩
         have HB2 : Hid (Below w1.heap.size w1 w2) := (below_drewN (Below.refl _ w1) 1).trans hb2
         have d0 := cell_below c0 HB2.out
         have d1 := cell_below c1 HB2.out
         have HW2 : Hid (w2.heap[Bs]? = some (.cells #[.int .i64 s1, .int .i64 s2] 24 (0, 0)) ∧ w2.heap[Bl]? = some (.cells #[.slice a2 xs.length cc2] 22 (0, 0)) ∧ SOwn w2 w1.heap.size (.slice a2 xs.length cc2) xs ∧ w1.heap.size ≤ Bs ∧ w1.heap.size ≤ Bl ∧ Bs ≠ Bl) := ⟨hs1, hs2, hs3, hs4, hs5, hs6⟩
         have HK2 : Hid (xs.length ≤ 2000 ∧ wks l f t (pc s2 s1 xs)) := ⟨hx1, hx2⟩
         clear hs1 hs2 hs3 hs4 hs5 hs6 hb2 hx1 hx2))
    all_goals (
      go_wp2_with fail
      go_meet
      exact ⟨Bs, Bl, a2, cc2, xs, s1, s2, rfl, HB2, HW2, HK2⟩)
  case rest =>
    obtain ⟨Bs, Bl, a2, cc2, xs, s1, s2, rfl, HB2, HW2, HK2⟩ := hcut
    clear HLS c0 c1
    have hnf := func_nil Bs Bl wc
    have HWc : Hid (Below w.heap.size w wc) := HW1.out.trans (HB2.out.mono HW1.out.size)
    have HYc : Hid (Below W0.heap.size W0 wc) := HY1.out.trans (HB2.out.mono HY1.out.size)
    have OAc : Hid (SOwn wc W0.heap.size (.slice (some ⟨W0.heap.size, 0, none⟩) (l.length + 2) (l.length + 2)) (mkd l)) := OA.out.below HB2.out
    clear OA OAD HW1 HY1
    go_wp2_with fail
    refine (lent_any (HA.out wc HWc.out) ma).mono ?_
    rintro e w3 ⟨rfl, hs3, hb3⟩
    have hml : (mkd l).length ≤ 9223372036854775807 := by simp [mkd]; omega
    have HSm := same_ls ((OAc.out.below hb3).ls hml) (hs3.ls hml)
    rw [show eqB (mkd l) (mkd l) = true by simp [eqB]] at HSm
    have HW3 : Hid (Below w.heap.size w w3) := HWc.out.trans (hb3.mono HWc.out.size)
    have HY3 : Hid (Below W0.heap.size W0 w3) := HYc.out.trans (hb3.mono HYc.out.size)
    have HZ3 : Hid (Below wc.heap.size wc w3) := hb3
    clear hs3 hb3 hml
    go_wp2_with fail
    refine HSm.mono ?_
    rintro e w4 ⟨rfl, hb4⟩
    have HW4 : Hid (Below w.heap.size w w4) := HW3.out.trans (hb4.mono HW3.out.size)
    have HY4 : Hid (Below W0.heap.size W0 w4) := HY3.out.trans (hb4.mono HY3.out.size)
    have HZ4 : Hid (Below wc.heap.size wc w4) := HZ3.out.trans (hb4.mono HZ3.out.size)
    clear hb4 HSm HW3 HY3 HZ3
    have c0 := cell_of_row _ _ 0 _ _ _ (HX.out w4 HY4.out).1
    have c1 := cell_of_row _ _ 1 _ _ _ (HX.out w4 HY4.out).1
    simp only [List.getElem?_toArray, List.getElem?_cons_zero, List.getElem?_cons_succ] at c0 c1
    go_wp2_with fail
    refine (refpieces_all f t (HA.out w4 HW4.out)).mono ?_
    rintro e w5 ⟨v, L, rfl, hp5, hb5, hwk⟩
    obtain ⟨a5, cc5, rfl⟩ := hp5.shape
    obtain ⟨nL, hnL⟩ : ∃ m, L.length = m := ⟨_, rfl⟩
    rw [hnL] at hp5 ⊢
    have HP5 : Hid (POwn w5 w4.heap.size (.slice a5 nL cc5) L) := hp5
    have HNL : Hid (L.length = nL) := hnL
    have HWk : Hid (L = pc s2 s1 xs) := hwk.uniq HK2.out.2
    have HN4 : Hid (nL ≤ 4001) := by rw [← hnL]; exact hwk.len
    have HW5 : Hid (Below w.heap.size w w5) := HW4.out.trans (hb5.mono HW4.out.size)
    have HY5 : Hid (Below W0.heap.size W0 w5) := HY4.out.trans (hb5.mono HY4.out.size)
    have HZ5 : Hid (Below wc.heap.size wc w5) := HZ4.out.trans (hb5.mono HZ4.out.size)
    have HS45 : Hid (w4.heap.size ≤ w5.heap.size ∧ wc.heap.size ≤ w4.heap.size) := ⟨hb5.size, HZ4.out.size⟩
    clear hp5 hb5 hwk hnL c0 c1 HW4 HY4 HZ4
    obtain ⟨b10, hb10⟩ : ∃ b, w5.heap.size = b := ⟨_, rfl⟩
    obtain ⟨w6, hw6⟩ : ∃ W, w5.alloc (.cells #[.slice a5 nL cc5] 45) = W := ⟨_, rfl⟩
    have X10 : Hid (w6.heap[b10]? = some (.cells #[.slice a5 nL cc5] 45 (0, 0))) := by rw [← hw6, ← hb10]; exact heap_alloc_new' _ _
    have HZ6 : Hid (Below w5.heap.size w5 w6) := by rw [← hw6]; exact (Below.refl _ _).alloc (Nat.le_refl _) _
    have HAw := awake_any w6
    go_wp2_with fail
    refine HAw.mono ?_
    rintro e w7 ⟨rfl, hb7⟩
    have HZ7 : Hid (Below w6.heap.size w6 w7) := hb7
    have OA7 : SOwn w7 W0.heap.size (.slice (some ⟨W0.heap.size, 0, none⟩) (l.length + 2) (l.length + 2)) (mkd l) := ((OAc.out.below HZ5.out).below HZ6.out).below hb7
    have HSp := spaced_big W0.heap.size (l.length + 2) (l.length + 2) (l.length + 2) (mkd l) W0.heap.size (l.length + 2) w7 OA7 (Nat.le_refl _) (by omega)
    have HB10 : Hid (w5.heap.size = b10) := hb10
    clear hb7 HAw OAc OA7 hw6 hb10 hnf
    go_wp2_with fail
    refine HSp.mono ?_
    rintro e w8 ⟨⟨vs, rfl⟩, _, hg8⟩
    obtain ⟨N, hN⟩ : ∃ N, w8.heap.size = N := ⟨_, rfl⟩
    have HGr : Hid (w7.grownBy w8 (some W0.heap.size)) := hg8
    have HNN : Hid (w8.heap.size = N) := hN
    obtain ⟨C, hC⟩ : ∃ C : Wc, C = ⟨w.heap.size + 1, b10, w4.heap.size, N, Bs, Bl, cc2, stop, s1, s2, .slice a5 nL cc5, L, a2, xs, w⟩ := ⟨_, rfl⟩
    have H8 : Hid (∀ k, k < w7.heap.size → k ≠ W0.heap.size → w8.heap[k]? = w7.heap[k]?) := fun k hk hn => hg8.block k hk (by simpa using hn)
    have HS : Hid (W0.heap.size < w1.heap.size ∧ w1.heap.size ≤ wc.heap.size ∧ wc.heap.size ≤ w5.heap.size ∧ w5.heap.size < w6.heap.size ∧ w6.heap.size ≤ w7.heap.size ∧ w7.heap.size ≤ w8.heap.size ∧ w4.heap.size ≤ w5.heap.size ∧ wc.heap.size ≤ w4.heap.size) := by
      refine ⟨pA, HB2.out.size, HZ5.out.size, ?_, HZ7.out.size, hg8.size, ?_, ?_⟩
      · have := (Array.getElem?_eq_some_iff.1 X10.out).1; rw [← HB10.out] at this; exact this
      · exact HS45.out.1
      · exact HS45.out.2
    have h8 : ∀ k, k < w5.heap.size → k ≠ W0.heap.size → w8.heap[k]? = w5.heap[k]? := fun k hk hn => by
      obtain ⟨s1', s2', s3', s4', s5', s6', s7', s8'⟩ := HS.out
      rw [H8.out k (by omega) hn, HZ7.out.block k (by omega), HZ6.out.block k hk]
    have J8 : ∀ W, Below N w8 W → W.heap[N]? = some (.cells #[.int .i64 0] 3 (0, 0)) → W.heap[N + 1]? = some (.cells #[.int .i64 0] 3 (0, 0)) → W.heap[N + 2]? = some (.cells #[.bool true] 4 (0, 0)) → W.heap[N + 3]? = some (.cells #[.int .i64 0] 3 (0, 0)) → WJ C [] (N + 3) 0 0 true 0 W := by
      intro W hW m0 m1 m2 m3
      obtain ⟨s1', s2', s3', s4', s5', s6', s7', s8'⟩ := HS.out
      obtain ⟨q1, q2, q3, q4, q5, q6⟩ := HW2.out
      have z0 := HSz.out
      have zN := HNN.out
      have zb := HB10.out
      have lBs : Bs < wc.heap.size := (Array.getElem?_eq_some_iff.1 q1).1
      have lBl : Bl < wc.heap.size := (Array.getElem?_eq_some_iff.1 q2).1
      have hall : ∀ k, k < w5.heap.size → k ≠ W0.heap.size → W.heap[k]? = w5.heap[k]? := fun k hk hn => (hW.block k (by omega)).trans (h8 k hk hn)
      have hpl : ∀ k, (Value.slice a5 nL cc5).ownBlock = some k → k < N := fun k hk => by have := (HP5.out.lt k hk).2; omega
      rw [hC]
      refine { st := (hall (w.heap.size + 1) (by omega) (by omega)).trans (HX.out w5 HY5.out).2, wb := ?_, pl := ?_, mb := m0, eb := m1, ob := m2, tb := m3, bs := ?_, bl := ?_, sx := ?_, low := ?_, hds := by simp, nd := by simp, hsb := ?_, hbw := ?_, hBs := ?_, hBl := ?_, hN := ?_, hbt := ?_, hpl := hpl }
      · show W.heap[b10]? = _
        rw [hW.block b10 (by omega), H8.out b10 (by omega) (by omega), HZ7.out.block b10 (by omega)]
        exact X10.out
      · exact HP5.out.block (fun k hk => hall k (HP5.out.lt k hk).2 (by have := (HP5.out.lt k hk).1; omega))
      · show W.heap[Bs]? = _
        rw [hall Bs (by omega) (by omega), HZ5.out.block Bs lBs]; exact q1
      · show W.heap[Bl]? = _
        rw [hall Bl (by omega) (by omega), HZ5.out.block Bl lBl]; exact q2
      · have hk5 : SOwn W w1.heap.size (.slice a2 xs.length cc2) xs := by
          obtain ⟨r1, r2 | ⟨g, cap, cur, e, r3, r4, r5⟩⟩ := q3
          · exact ⟨r1, .inl r2⟩
          · have lg : g < wc.heap.size := (Array.getElem?_eq_some_iff.1 r4).1
            exact ⟨r1, .inr ⟨g, cap, cur, e, r3, by rw [hall g (by omega) (by omega), HZ5.out.block g lg]; exact r4, r5⟩⟩
        refine ⟨hk5.spa, fun _ x hx => ?_⟩
        show x.block < N
        have hx' : a2 = some x := hx
        have := (q3.lt x.block (by rw [hx']; rfl)).2
        omega
      · show Below w.heap.size w W
        have h58 : Below w.heap.size w5 W := ⟨hW.os.trans (HGr.out.os.trans (HZ7.out.os.trans HZ6.out.os)), hW.tape.trans (HGr.out.tape.trans (HZ7.out.tape.trans HZ6.out.tape)), hW.output.trans (HGr.out.output.trans (HZ7.out.output.trans HZ6.out.output)), by have := hW.size; omega, fun k hk => hall k (by have := HW5.out.size; omega) (by omega)⟩
        exact HW5.out.trans h58
      · show w.heap.size + 1 < N; omega
      · show b10 < N; omega
      · show Bs < N; omega
      · show Bl < N; omega
      · show w.heap.size ≤ N; omega
      · show N + 3 ≤ N + 3; omega
    have HJ8 : Hid (∀ W, Below N w8 W → W.heap[N]? = some (.cells #[.int .i64 0] 3 (0, 0)) → W.heap[N + 1]? = some (.cells #[.int .i64 0] 3 (0, 0)) → W.heap[N + 2]? = some (.cells #[.bool true] 4 (0, 0)) → W.heap[N + 3]? = some (.cells #[.int .i64 0] 3 (0, 0)) → WJ C [] (N + 3) 0 0 true 0 W) := J8
    have HCc : Hid (C = ⟨w.heap.size + 1, b10, w4.heap.size, N, Bs, Bl, cc2, stop, s1, s2, .slice a5 nL cc5, L, a2, xs, w⟩) := hC
    clear J8 h8 hg8 hC H8 HS HX HW2 X10 HB10 HZ5 HZ6 HZ7 HY5 HW5 HP5 HS45 HA HWc HYc HB2 HSp
    go_wp2_with fail
    have J9 := HJ8.out ((((w8.alloc (.cells #[.int .i64 0] 3)).alloc (.cells #[.int .i64 0] 3)).alloc (.cells #[.bool true] 4)).alloc (.cells #[.int .i64 0] 3)) (by
        rw [← HNN.out]; exact ((((Below.refl _ _).alloc (Nat.le_refl _) _).alloc (by simp) _).alloc (by simp; omega) _).alloc (by simp; omega) _)
      (by rw [← HNN.out]; exact heapC (heapC (heapC (heap_alloc_new' _ _) _) _) _)
      (by rw [← HNN.out]; have := heap_alloc_new' (w8.alloc (.cells #[.int .i64 0] 3)) (.cells #[.int .i64 0] 3); rw [World.size_alloc] at this; exact heapC (heapC this _) _)
      (by rw [← HNN.out]; have := heap_alloc_new' ((w8.alloc (.cells #[.int .i64 0] 3)).alloc (.cells #[.int .i64 0] 3)) (.cells #[.bool true] 4); rw [World.size_alloc, World.size_alloc] at this; exact heapC this _)
      (by rw [← HNN.out]; have := heap_alloc_new' (((w8.alloc (.cells #[.int .i64 0] 3)).alloc (.cells #[.int .i64 0] 3)).alloc (.cells #[.bool true] 4)) (.cells #[.int .i64 0] 3); rw [World.size_alloc, World.size_alloc, World.size_alloc] at this; exact this)
    obtain ⟨W9, hW9⟩ : ∃ W, (((w8.alloc (.cells #[.int .i64 0] 3)).alloc (.cells #[.int .i64 0] 3)).alloc (.cells #[.bool true] 4)).alloc (.cells #[.int .i64 0] 3) = W := ⟨_, rfl⟩
    rw [hW9] at J9
    have HJ9 : Hid (WJ C [] (N + 3) 0 0 true 0 W9) := J9
    rw [hW9]
    clear hW9 J9 HJ8 HNN HGr hN
    obtain ⟨be, hbe⟩ : ∃ b, N + 1 = b := ⟨_, rfl⟩
    obtain ⟨bo, hbo⟩ : ∃ b, be + 1 = b := ⟨_, rfl⟩
    obtain ⟨bt, hbt⟩ : ∃ b, bo + 1 = b := ⟨_, rfl⟩
    rw [hbe, hbo, hbt]
    have HBx : Hid (C.N = N ∧ C.N + 1 = be ∧ C.N + 2 = bo ∧ N + 3 = bt) := ⟨by rw [HCc.out], by rw [HCc.out]; exact hbe, by rw [HCc.out]; show N + 2 = bo; omega, by omega⟩
    rw [HBx.out.2.2.2] at HJ9
    clear hbe hbo hbt
    have t0 : W9.cell? ⟨bt, 0, none⟩ = some (.int .i64 0) := cell_of_one HJ9.out.tb
    have m0 : W9.cell? ⟨N, 0, none⟩ = some (.int .i64 0) := by rw [← HBx.out.1]; exact cell_of_one HJ9.out.mb
    have z0 : W9.frozen? ⟨N, 0, none⟩ = false := by rw [← HBx.out.1]; simp [World.frozen?, HJ9.out.mb]
    obtain ⟨W10, hW10⟩ : ∃ W, W9.setCell ⟨N, 0, none⟩ (.int .i64 0) = W := ⟨_, rfl⟩
    have J10 : WJ C [] bt 0 0 true 0 W10 := by have := HJ9.out.setM 0; rw [HBx.out.1, hW10] at this; exact this
    refine wp_loop_rounds 4 ?_
    rw [rounds_succ]
    go_wp2_with fail
    clear t0 m0 z0 hW10 HJ9
    have JW10 := J10
    have hsz : N ≤ W10.heap.size := by have := (Array.getElem?_eq_some_iff.1 JW10.mb).1; rw [HBx.out.1] at this; omega
    have bsx : W10.heap[Bs]? = some (.cells #[.int .i64 s1, .int .i64 s2] 24 (0, 0)) := by have := JW10.bs; rw [HCc.out] at this; exact this
    have blx : W10.cell? ⟨Bl, 0, none⟩ = some (.slice a2 xs.length cc2) := by have := cell_of_one JW10.bl; rw [HCc.out] at this; exact this
    have spx : Spl N W10 a2 xs := by have := JW10.sx; rw [HCc.out] at this; exact this
    have hBsl : Bs < W10.heap.size := (Array.getElem?_eq_some_iff.1 bsx).1
    have hxs : xs.length ≤ 1048576 := by have := HK2.out.1; omega
    have hNc : C.N ≤ W10.heap.size := by rw [HBx.out.1]; exact hsz
    have hdc : ∀ D ∈ ([] : List Nat), D < W10.heap.size := fun D hD => (Array.getElem?_eq_some_iff.1 (JW10.hds D hD).2).1
    refine (wpIn_wide (n := n)).1 ?_
    refine wpIn_rangeFunc_ownH rfl h1 (gf := 46) (lb := #[.pointer (some ⟨Bs, 0, none⟩), .pointer (some ⟨Bl, 0, none⟩)]) rfl trivial (enters_of Try.func46 (by kernel_rfl) rfl)
      (pieces_stops (n - 1) (by omega) Bs Bl N a2 cc2 xs s1 s2 hxs W10 hsz bsx blx spx) Kps.trans (kps_b hsz hBsl) (Below.refl _ _) (fun _ => rfl)
      (IW C [] bt L 0 0 stop true) (IxW C [] bt L 0 stop true)
      (IW.own hNc hdc) (IxW.own hNc hdc)
      ⟨by rw [okP_nil]; exact JW10, fun _ j hj => absurd hj (by simp)⟩
      (fun x a' W => ∃ Bx, W.heap[Bx]? = some (.cells #[.int .i64 x.1.1, .int .i64 x.1.2] 24 (0, 0)) ∧ a' = { tmps := #[Value.slice aa l.length ca, Value.agg #[Value.int IntKind.i64 f, Value.int IntKind.i64 t], Value.int IntKind.i64 stop, undef, Value.pointer (some ⟨w.heap.size, 0, none⟩), Value.pointer (some ⟨w.heap.size + 1, 0, none⟩), Value.bool false, Value.slice (some ⟨W0.heap.size, 0, none⟩) (l.length + 2) (l.length + 2), Value.func (Fn.func 46) #[] #[Value.pointer (some ⟨Bs, 0, none⟩), Value.pointer (some ⟨Bl, 0, none⟩)], Value.bool true, Value.pointer (some ⟨b10, 0, none⟩), Value.bool true, Value.pointer (some ⟨N, 0, none⟩), Value.pointer (some ⟨be, 0, none⟩), Value.pointer (some ⟨bo, 0, none⟩), Value.pointer (some ⟨bt, 0, none⟩), .pointer (some ⟨Bx, 0, none⟩), .bool x.2, Value.slice aa l.length ca, Value.slice (some ⟨W0.heap.size, 0, none⟩) (l.length + 2) (l.length + 2), u20, u21, u22, u23, u24, u25, Value.func (Fn.func 46) #[] #[Value.pointer (some ⟨Bs, 0, none⟩), Value.pointer (some ⟨Bl, 0, none⟩)], Value.bool false, Value.slice (some ⟨W0.heap.size, 0, none⟩) (l.length + 2) (l.length + 2), Value.slice aa l.length ca, Value.slice (some ⟨wc.heap.size, 0, none⟩) (l.length + 2) (l.length + 2), Value.bool true, Value.slice aa l.length ca, Value.agg #[Value.int IntKind.i64 f, Value.int IntKind.i64 t], Value.slice a5 nL cc5, Value.bool true, Value.bool true, Value.bool false, Value.bool false, Value.bool true, Value.bool false, Value.bool false, Value.slice (some ⟨W0.heap.size, 0, none⟩) (l.length + 2) (l.length + 2), vs, Value.int IntKind.i64 0, Value.bool true, undef, undef, Value.func (Fn.func 46) #[] #[Value.pointer (some ⟨Bs, 0, none⟩), Value.pointer (some ⟨Bl, 0, none⟩)], .agg #[.int .i64 x.1.1, .int .i64 x.1.2], .bool x.2, undef, undef, undef, undef, undef, undef, undef, undef, undef, undef, undef, undef, undef, undef, undef, undef, undef, undef, undef, undef, undef, undef, undef, undef, undef, undef, undef, undef, undef, undef, undef, undef, undef, undef, undef, undef, undef, undef, undef, undef, undef, undef, undef, undef, undef, undef, undef, undef, undef, undef], defers := [] })
      (fun x a' _ X Y row hs hg hr => by obtain ⟨Bx, h2, h3⟩ := hs; exact ⟨Bx, cells_keep h2 hg hr, h3⟩)
      ?assign ?body ?done ?stop
    case assign =>
      rintro l' pre x W K ⟨hI, hG⟩ hK
      have hNl : N ≤ W.heap.size := by have := (Array.getElem?_eq_some_iff.1 hI.mb).1; rw [HBx.out.1] at this; omega
      have hBl2 : Bs < W.heap.size := by have := (Array.getElem?_eq_some_iff.1 hI.bs).1; rw [HCc.out] at this; exact this
      gi_wp2
      exact hK _ _ ((KeepsOthers.alloc _ _).from _) ⟨(Below.refl _ W).alloc hNl _, Below.heap_alloc W _ _ hBl2⟩ ⟨hI.alloc _, hG⟩ ⟨W.heap.size, heap_alloc_new' _ _, rfl⟩
    case body =>
      rintro l' pre x a' W hl' hr ⟨hI, hG⟩ ⟨Bx, hxb, rfl⟩ hlt
      have HI : Hid (WJ C [] bt pre.length 0 (okP L pre) 0 W) := hI
      have HG : Hid (IsT true → ∀ j : Nat, j < pre.length → (j : Int) ≠ stop) := hG
      have HXB : Hid (W.heap[Bx]? = some (.cells #[.int .i64 x.1.1, .int .i64 x.1.2] 24 (0, 0))) := hxb
      have HLt : Hid (pre.length < L.length) := by show _ < _; rw [HWk.out]; exact hlt
      have y1 : W.cell? ⟨bt, 0, none⟩ = some (.int .i64 0) := cell_of_one hI.tb
      have y2 : W.cell? ⟨N, 0, none⟩ = some (.int .i64 pre.length) := by rw [← HBx.out.1]; exact cell_of_one hI.mb
      have y3 : W.cell? ⟨w.heap.size + 1, 0, none⟩ = some (.int .i64 stop) := by have := cell_of_one hI.st; rw [HCc.out] at this; exact this
      obtain ⟨np, hnp⟩ : ∃ k : Int, (pre.length : Int) = k := ⟨_, rfl⟩
      have HNp : Hid ((pre.length : Int) = np) := hnp
      rw [hnp] at y2
      clear hI hG hxb hlt hr hnp
      by_cases hms : np = stop
      · have x1 : W.cell? ⟨be, 0, none⟩ = some (.int .i64 0) := by rw [← HBx.out.2.1]; exact cell_of_one HI.out.eb
        have x2 : W.frozen? ⟨be, 0, none⟩ = false := by rw [← HBx.out.2.1]; simp [World.frozen?, HI.out.eb]
        have hbeq : (np == stop) = true := by simp [hms]
        have HMs : Hid (np = stop) := hms
        clear hms
        gi_wp2
        refine ⟨kf_set (HBx.out.2.1 ▸ HI.out.eb) 0 _, rfl, rfl, pre, x, rfl, ?_, by rw [HNp.out]; exact HMs.out⟩
        have := HI.out.setE 1
        rw [HBx.out.2.1] at this
        exact this
      · have hbeq : (np == stop) = false := beq_false_of_ne hms
        have HMs : Hid (¬ np = stop) := hms
        clear hms
        gi_wp2_with fail
        have hlt := HLt.out
        obtain ⟨y, hy⟩ : ∃ y, L[pre.length]? = some y := ⟨_, List.getElem?_eq_getElem hlt⟩
        have hpl : POwn W w4.heap.size (.slice a5 nL cc5) L := by have := HI.out.pl; rw [HCc.out] at this; exact this
        obtain ⟨g5, hg5, c3, c4, c5⟩ := hpl.cells hy
        have hg5N : g5 ≠ bo := by
          have := HI.out.hpl g5 (by rw [HCc.out, hg5]; rfl)
          have h2 := HBx.out
          omega
        have cw : W.drew.cell? ⟨b10, 0, none⟩ = some (.slice (some ⟨g5, 0, none⟩) nL cc5) := by have := cell_of_one HI.out.wb; rw [HCc.out, hg5] at this; exact this
        obtain ⟨⟨v1, v2⟩, vb⟩ := y
        obtain ⟨⟨x1, x2⟩, xb⟩ := x
        simp only at c3 c4 c5
        have cx0 : W.drew.cell? ⟨Bx, 0, none⟩ = some (.int .i64 x1) := by show W.cell? _ = _; rw [cell_of_row _ _ _ _ _ _ HXB.out]; rfl
        have cx1 : W.drew.cell? ⟨Bx, 1, none⟩ = some (.int .i64 x2) := by show W.cell? _ = _; rw [cell_of_row _ _ _ _ _ _ HXB.out]; rfl
        have hBxo : Bx ≠ bo := fun e => by
          have h1 := HXB.out; rw [e, ← HBx.out.2.2.1, HI.out.ob] at h1; simp at h1
        have hNo : N ≠ bo ∧ b10 ≠ bo ∧ g5 ≠ bo ∧ Bx ≠ bo := ⟨by have := HBx.out; omega, by have h1 := HI.out.hbw; rw [HCc.out] at h1; have h2 := HBx.out; simp only at h1; omega, hg5N, hBxo⟩
        have cN : W.drew.cell? ⟨N, 0, none⟩ = some (.int .i64 (pre.length : Int)) := by show W.cell? _ = _; rw [y2, HNp.out]
        have co : W.drew.cell? ⟨bo, 0, none⟩ = some (.bool (okP L pre)) := by show W.cell? _ = _; rw [← HBx.out.2.2.1]; exact cell_of_one HI.out.ob
        have zo : W.drew.frozen? ⟨bo, 0, none⟩ = false := by show W.frozen? _ = _; rw [← HBx.out.2.2.1]; simp [World.frozen?, HI.out.ob]
        have zN : W.frozen? ⟨N, 0, none⟩ = false := by rw [← HBx.out.1]; simp [World.frozen?, HI.out.mb]
        have hkn : pre.length < nL := by have := HNL.out; omega
        have hstep := okP_step (x := ((x1, x2), xb)) hy
        have hwp : IntKind.i64.wrap (np + 1) = np + 1 := by have h1 := HNp.out; have h2 := HN4.out; rw [IntKind.wrap_i64]; omega
        have fin : ∀ r : Bool, okP L (pre ++ [((x1, x2), xb)]) = r → WJ C [] bt ((pre ++ [((x1, x2), xb)]).length : Nat) 0 (okP L (pre ++ [((x1, x2), xb)])) 0 ((W.drew.setCell ⟨bo, 0, none⟩ (.bool r)).setCell ⟨N, 0, none⟩ (.int .i64 (np + 1))) ∧ Kps N Bs W ((W.drew.setCell ⟨bo, 0, none⟩ (.bool r)).setCell ⟨N, 0, none⟩ (.int .i64 (np + 1))) ∧ KeepsFrom W10.heap.size W ((W.drew.setCell ⟨bo, 0, none⟩ (.bool r)).setCell ⟨N, 0, none⟩ (.int .i64 (np + 1))) ∧ (W.drew.setCell ⟨bo, 0, none⟩ (.bool r)).cell? ⟨N, 0, none⟩ = some (.int .i64 np) ∧ (W.drew.setCell ⟨bo, 0, none⟩ (.bool r)).frozen? ⟨N, 0, none⟩ = false := by
          intro r hr
          have j1 := HI.out.drew.setO r
          have j2 := j1.setM (np + 1)
          have hbs := HI.out.hBs
          rw [HCc.out] at hbs
          simp only at hbs
          have hB3 := HBx.out
          rw [HBx.out.2.2.1] at j1
          rw [HBx.out.2.2.1, HBx.out.1] at j2
          refine ⟨?_, ((kps_drew W).trans (kps_set (by omega) (by omega) 0 _)).trans (kps_set (Nat.le_refl _) (by omega) 0 _), ((kf_drew W).trans (kf_set (HBx.out.2.2.1 ▸ HI.out.drew.ob) 0 _)).trans (kf_set (HBx.out.1 ▸ j1.mb) 0 _), ?_, ?_⟩
          · rw [hr, List.length_append, List.length_singleton, Int.natCast_add, HNp.out]; exact j2
          · have := cell_of_one j1.mb; rw [HBx.out.1, HNp.out] at this; exact this
          · rw [← HBx.out.1]; simp [World.frozen?, j1.mb]
        have HFin : Hid (∀ r : Bool, okP L (pre ++ [((x1, x2), xb)]) = r → _) := fin
        clear fin hpl
        cases hob : okP L pre with
        | false =>
          rw [hob] at co hstep
          simp only [Bool.false_and] at hstep
          obtain ⟨f1, f2, f3, f4, f5⟩ := HFin.out false hstep
          have HF : Hid _ := And.intro f1 (And.intro f2 f3)
          clear f1 f2 f3 HFin
          refine reg23_F l' _ _ (by rintro ⟨a, w, h⟩; exact h) (fun _ _ _ _ h => h) bo N b10 g5 nL cc5 pre.length Bx x1 x2 xb v1 v2 vb W hkn ⟨cN, cw, c3, c4, c5, cx0, cx1⟩ co zo hNo ?_
          gi_wp2
          exact ⟨HF.out.2.2, HF.out.2.1, HF.out.1, fun h j hj => by
          have h1 := HG.out h; have h2 := HMs.out; have h3 := HNp.out
          by_cases hj2 : j < pre.length
          · exact h1 j hj2
          · rw [List.length_append, List.length_singleton] at hj; omega⟩
        | true =>
          rw [hob] at co hstep
          simp only [Bool.true_and] at hstep
          by_cases hxy : v1 = x1 ∧ v2 = x2 ∧ vb = xb
          · obtain ⟨rfl, rfl, rfl⟩ := hxy
            obtain ⟨f1, f2, f3, f4, f5⟩ := HFin.out true (hstep.trans (by simp))
            have HF : Hid _ := And.intro f1 (And.intro f2 f3)
            clear f1 f2 f3 HFin
            refine reg23_E l' _ _ (by rintro ⟨a, w, h⟩; exact h) (fun _ _ _ _ h => h) bo N b10 g5 nL cc5 pre.length Bx v1 v2 vb W hkn ⟨cN, cw, c3, c4, c5, cx0, cx1⟩ co zo hNo ?_
            gi_wp2
            exact ⟨HF.out.2.2, HF.out.2.1, HF.out.1, fun h j hj => by
          have h1 := HG.out h; have h2 := HMs.out; have h3 := HNp.out
          by_cases hj2 : j < pre.length
          · exact h1 j hj2
          · rw [List.length_append, List.length_singleton] at hj; omega⟩
          · obtain ⟨f1, f2, f3, f4, f5⟩ := HFin.out false (hstep.trans (decide_eq_false (fun e => hxy (by simpa [and_assoc] using e))))
            have HF : Hid _ := And.intro f1 (And.intro f2 f3)
            clear f1 f2 f3 HFin
            refine reg23_D l' _ _ (by rintro ⟨a, w, h⟩; exact h) (fun _ _ _ _ h => h) bo N b10 g5 nL cc5 pre.length Bx x1 x2 xb v1 v2 vb W hkn hxy ⟨cN, cw, c3, c4, c5, cx0, cx1⟩ co zo hNo ?_
            gi_wp2
            exact ⟨HF.out.2.2, HF.out.2.1, HF.out.1, fun h j hj => by
          have h1 := HG.out h; have h2 := HMs.out; have h3 := HNp.out
          by_cases hj2 : j < pre.length
          · exact h1 j hj2
          · rw [List.length_append, List.length_singleton] at hj; omega⟩
    case' done =>
      rintro D0 ys W rfl0 rfl hI hK
      obtain ⟨m', e', J, HE⟩ : ∃ m' e' : Int, WJ C [D0] bt m' e' true 0 W ∧ Hid (EarlyOk e' stop nL) := by
        have hok : okP L (pc s2 s1 xs) = true := by rw [← HWk.out, okP_all]
        have h1 := hI.1
        rw [hok] at h1
        refine ⟨_, _, h1.mark (Nat.le_trans hNc rfl0) hK (by simp), .inr ⟨rfl, fun h => ?_⟩⟩
        obtain ⟨k, hk⟩ := Int.eq_ofNat_of_zero_le h.1
        have hl : (pc s2 s1 xs).length = nL := by rw [← HWk.out]; exact HNL.out
        exact hI.2 rfl k (by omega) hk.symm
      clear hI hK rfl0
    case' stop =>
      rintro D0 c' pre W hD hSp ⟨_, rfl, pre0, x, rfl, h1, hst⟩ hK
      obtain ⟨m', e', J, HE⟩ : ∃ m' e' : Int, WJ C [D0] bt m' e' true 0 W ∧ Hid (EarlyOk e' stop nL) := by
        have hl : (pc s2 s1 xs).length = nL := by rw [← HWk.out]; exact HNL.out
        have hp0 : pre0 <+: pc s2 s1 xs := (List.prefix_append pre0 [x]).trans hSp
        have hlen := hSp.length_le
        rw [List.length_append, List.length_singleton] at hlen
        rw [okP_prefix (by rw [HWk.out]; exact hp0)] at h1
        exact ⟨_, _, h1.mark (Nat.le_trans hNc hD) hK (by simp), .inl ⟨rfl, by omega, by omega⟩⟩
      clear h1 hK hSp hst hD
      refine wpIn_wide.2 ?_
    all_goals (
      clear bsx blx spx hBsl hNc hdc hsz JW10 J10
      have t0 : W.cell? ⟨bt, 0, none⟩ = some (.int .i64 0) := cell_of_one J.tb
      go_wp2_with fail
      obtain ⟨bt1, hbt1⟩ : ∃ b, W.heap.size = b := ⟨_, rfl⟩
      obtain ⟨V1, hV1⟩ : ∃ V, (W.alloc (.cells #[.int .i64 1] 3)).setCell ⟨N, 0, none⟩ (.int .i64 0) = V := ⟨_, rfl⟩
      have JV1 : WJ C [D0] bt1 0 e' true 1 V1 := by have := J.turn 1; rw [HBx.out.1, hbt1, hV1] at this; exact this
      have t1 : (W.alloc (.cells #[.int .i64 1] 3)).cell? ⟨bt1, 0, none⟩ = some (.int .i64 1) := by rw [← hbt1]; simp
      have m1 : (W.alloc (.cells #[.int .i64 1] 3)).cell? ⟨N, 0, none⟩ = some (.int .i64 m') := by rw [← HBx.out.1]; exact cell_of_one (J.alloc _).mb
      have z1 : (W.alloc (.cells #[.int .i64 1] 3)).frozen? ⟨N, 0, none⟩ = false := by rw [← HBx.out.1]; simp [World.frozen?, (J.alloc (.cells #[.int .i64 1] 3)).mb]
      rw [hbt1]
      clear t0 hbt1 J
      rw [rounds_succ]
      go_wp2_with fail
      try rw [hV1]
      clear t1 m1 z1 hV1
      have hsz : N ≤ V1.heap.size := by have := (Array.getElem?_eq_some_iff.1 JV1.mb).1; rw [HBx.out.1] at this; omega
      have bsx : V1.heap[Bs]? = some (.cells #[.int .i64 s1, .int .i64 s2] 24 (0, 0)) := by have := JV1.bs; rw [HCc.out] at this; exact this
      have blx : V1.cell? ⟨Bl, 0, none⟩ = some (.slice a2 xs.length cc2) := by have := cell_of_one JV1.bl; rw [HCc.out] at this; exact this
      have spx : Spl N V1 a2 xs := by have := JV1.sx; rw [HCc.out] at this; exact this
      have hBsl : Bs < V1.heap.size := (Array.getElem?_eq_some_iff.1 bsx).1
      have hxs : xs.length ≤ 1048576 := by have := HK2.out.1; omega
      have hNc : C.N ≤ V1.heap.size := by rw [HBx.out.1]; exact hsz
      have hdc : ∀ D ∈ ([D0] : List Nat), D < V1.heap.size := fun D hD => (Array.getElem?_eq_some_iff.1 (JV1.hds D hD).2).1
      refine (wpIn_wide (n := n)).1 ?_
      refine wpIn_rangeFunc_ownH rfl h1 (gf := 46) (lb := #[.pointer (some ⟨Bs, 0, none⟩), .pointer (some ⟨Bl, 0, none⟩)]) rfl trivial (enters_of Try.func46 (by kernel_rfl) rfl)
        (pieces_stops (n - 1) (by omega) Bs Bl N a2 cc2 xs s1 s2 hxs V1 hsz bsx blx spx) Kps.trans (kps_b hsz hBsl) (Below.refl _ _) (fun _ => rfl)
        (IW C [D0] bt1 L e' 1 stop false) (IxW C [D0] bt1 L 1 stop false)
        (IW.own hNc hdc) (IxW.own hNc hdc)
        ⟨by rw [okP_nil]; exact JV1, fun _ j hj => absurd hj (by simp)⟩
        (fun x a' W => ∃ Bx, W.heap[Bx]? = some (.cells #[.int .i64 x.1.1, .int .i64 x.1.2] 24 (0, 0)) ∧ a' = { tmps := #[Value.slice aa l.length ca, Value.agg #[Value.int IntKind.i64 f, Value.int IntKind.i64 t], Value.int IntKind.i64 stop, undef, Value.pointer (some ⟨w.heap.size, 0, none⟩), Value.pointer (some ⟨w.heap.size + 1, 0, none⟩), Value.bool false, Value.slice (some ⟨W0.heap.size, 0, none⟩) (l.length + 2) (l.length + 2), Value.func (Fn.func 46) #[] #[Value.pointer (some ⟨Bs, 0, none⟩), Value.pointer (some ⟨Bl, 0, none⟩)], Value.bool true, Value.pointer (some ⟨b10, 0, none⟩), Value.bool true, Value.pointer (some ⟨N, 0, none⟩), Value.pointer (some ⟨be, 0, none⟩), Value.pointer (some ⟨bo, 0, none⟩), Value.pointer (some ⟨bt1, 0, none⟩), .pointer (some ⟨Bx, 0, none⟩), .bool x.2, Value.slice aa l.length ca, Value.slice (some ⟨W0.heap.size, 0, none⟩) (l.length + 2) (l.length + 2), u20, u21, u22, u23, u24, u25, Value.func (Fn.func 46) #[] #[Value.pointer (some ⟨Bs, 0, none⟩), Value.pointer (some ⟨Bl, 0, none⟩)], Value.bool false, Value.slice (some ⟨W0.heap.size, 0, none⟩) (l.length + 2) (l.length + 2), Value.slice aa l.length ca, Value.slice (some ⟨wc.heap.size, 0, none⟩) (l.length + 2) (l.length + 2), Value.bool true, Value.slice aa l.length ca, Value.agg #[Value.int IntKind.i64 f, Value.int IntKind.i64 t], Value.slice a5 nL cc5, Value.bool true, Value.bool true, Value.bool false, Value.bool false, Value.bool true, Value.bool false, Value.bool false, Value.slice (some ⟨W0.heap.size, 0, none⟩) (l.length + 2) (l.length + 2), vs, Value.int IntKind.i64 1, Value.bool true, Value.int IntKind.i64 0, Value.int IntKind.i64 1, Value.func (Fn.func 46) #[] #[Value.pointer (some ⟨Bs, 0, none⟩), Value.pointer (some ⟨Bl, 0, none⟩)], .agg #[.int .i64 x.1.1, .int .i64 x.1.2], .bool x.2, undef, undef, undef, undef, undef, undef, undef, undef, undef, undef, undef, undef, undef, undef, undef, undef, undef, undef, undef, undef, undef, undef, undef, undef, undef, undef, Value.int IntKind.i64 0, Value.bool false, undef, undef, undef, undef, undef, undef, undef, Value.int IntKind.i64 0, undef, undef, undef, undef, undef, undef, undef, undef, undef, undef, undef, undef, undef, undef], defers := [] })
        (fun x a' _ X Y row hs hg hr => by obtain ⟨Bx, h2, h3⟩ := hs; exact ⟨Bx, cells_keep h2 hg hr, h3⟩)
        ?_ ?_ ?_ ?_
      · rintro l' pre x W K ⟨hI, hG⟩ hK
        have hNl : N ≤ W.heap.size := by have := (Array.getElem?_eq_some_iff.1 hI.mb).1; rw [HBx.out.1] at this; omega
        have hBl2 : Bs < W.heap.size := by have := (Array.getElem?_eq_some_iff.1 hI.bs).1; rw [HCc.out] at this; exact this
        gi_wp2
        exact hK _ _ ((KeepsOthers.alloc _ _).from _) ⟨(Below.refl _ W).alloc hNl _, Below.heap_alloc W _ _ hBl2⟩ ⟨hI.alloc _, hG⟩ ⟨W.heap.size, heap_alloc_new' _ _, rfl⟩
      · rintro l' pre x a' W hl' hr ⟨hI, hG⟩ ⟨Bx, hxb, rfl⟩ hlt
        have HI : Hid (WJ C [D0] bt1 pre.length e' (okP L pre) 1 W) := hI
        have HG : Hid (IsT false → ∀ j : Nat, j < pre.length → (j : Int) ≠ stop) := hG
        have HXB : Hid (W.heap[Bx]? = some (.cells #[.int .i64 x.1.1, .int .i64 x.1.2] 24 (0, 0))) := hxb
        have HLt : Hid (pre.length < L.length) := by show _ < _; rw [HWk.out]; exact hlt
        have y1 : W.cell? ⟨bt1, 0, none⟩ = some (.int .i64 1) := cell_of_one hI.tb
        have y2 : W.cell? ⟨N, 0, none⟩ = some (.int .i64 pre.length) := by rw [← HBx.out.1]; exact cell_of_one hI.mb
        have y3 : W.cell? ⟨w.heap.size + 1, 0, none⟩ = some (.int .i64 stop) := by have := cell_of_one hI.st; rw [HCc.out] at this; exact this
        obtain ⟨np, hnp⟩ : ∃ k : Int, (pre.length : Int) = k := ⟨_, rfl⟩
        have HNp : Hid ((pre.length : Int) = np) := hnp
        rw [hnp] at y2
        clear hI hG hxb hlt hr hnp
        gi_wp2_with fail
        have hlt := HLt.out
        obtain ⟨y, hy⟩ : ∃ y, L[pre.length]? = some y := ⟨_, List.getElem?_eq_getElem hlt⟩
        have hpl : POwn W w4.heap.size (.slice a5 nL cc5) L := by have := HI.out.pl; rw [HCc.out] at this; exact this
        obtain ⟨g5, hg5, c3, c4, c5⟩ := hpl.cells hy
        have hg5N : g5 ≠ bo := by
          have := HI.out.hpl g5 (by rw [HCc.out, hg5]; rfl)
          have h2 := HBx.out
          omega
        have cw : W.drew.cell? ⟨b10, 0, none⟩ = some (.slice (some ⟨g5, 0, none⟩) nL cc5) := by have := cell_of_one HI.out.wb; rw [HCc.out, hg5] at this; exact this
        obtain ⟨⟨v1, v2⟩, vb⟩ := y
        obtain ⟨⟨x1, x2⟩, xb⟩ := x
        simp only at c3 c4 c5
        have cx0 : W.drew.cell? ⟨Bx, 0, none⟩ = some (.int .i64 x1) := by show W.cell? _ = _; rw [cell_of_row _ _ _ _ _ _ HXB.out]; rfl
        have cx1 : W.drew.cell? ⟨Bx, 1, none⟩ = some (.int .i64 x2) := by show W.cell? _ = _; rw [cell_of_row _ _ _ _ _ _ HXB.out]; rfl
        have hBxo : Bx ≠ bo := fun e => by
          have h1 := HXB.out; rw [e, ← HBx.out.2.2.1, HI.out.ob] at h1; simp at h1
        have hNo : N ≠ bo ∧ b10 ≠ bo ∧ g5 ≠ bo ∧ Bx ≠ bo := ⟨by have := HBx.out; omega, by have h1 := HI.out.hbw; rw [HCc.out] at h1; have h2 := HBx.out; simp only at h1; omega, hg5N, hBxo⟩
        have cN : W.drew.cell? ⟨N, 0, none⟩ = some (.int .i64 (pre.length : Int)) := by show W.cell? _ = _; rw [y2, HNp.out]
        have co : W.drew.cell? ⟨bo, 0, none⟩ = some (.bool (okP L pre)) := by show W.cell? _ = _; rw [← HBx.out.2.2.1]; exact cell_of_one HI.out.ob
        have zo : W.drew.frozen? ⟨bo, 0, none⟩ = false := by show W.frozen? _ = _; rw [← HBx.out.2.2.1]; simp [World.frozen?, HI.out.ob]
        have zN : W.frozen? ⟨N, 0, none⟩ = false := by rw [← HBx.out.1]; simp [World.frozen?, HI.out.mb]
        have hkn : pre.length < nL := by have := HNL.out; omega
        have hstep := okP_step (x := ((x1, x2), xb)) hy
        have hwp : IntKind.i64.wrap (np + 1) = np + 1 := by have h1 := HNp.out; have h2 := HN4.out; rw [IntKind.wrap_i64]; omega
        have fin : ∀ r : Bool, okP L (pre ++ [((x1, x2), xb)]) = r → WJ C [D0] bt1 ((pre ++ [((x1, x2), xb)]).length : Nat) e' (okP L (pre ++ [((x1, x2), xb)])) 1 ((W.drew.setCell ⟨bo, 0, none⟩ (.bool r)).setCell ⟨N, 0, none⟩ (.int .i64 (np + 1))) ∧ Kps N Bs W ((W.drew.setCell ⟨bo, 0, none⟩ (.bool r)).setCell ⟨N, 0, none⟩ (.int .i64 (np + 1))) ∧ KeepsFrom V1.heap.size W ((W.drew.setCell ⟨bo, 0, none⟩ (.bool r)).setCell ⟨N, 0, none⟩ (.int .i64 (np + 1))) ∧ (W.drew.setCell ⟨bo, 0, none⟩ (.bool r)).cell? ⟨N, 0, none⟩ = some (.int .i64 np) ∧ (W.drew.setCell ⟨bo, 0, none⟩ (.bool r)).frozen? ⟨N, 0, none⟩ = false := by
          intro r hr
          have j1 := HI.out.drew.setO r
          have j2 := j1.setM (np + 1)
          have hbs := HI.out.hBs
          rw [HCc.out] at hbs
          simp only at hbs
          have hB3 := HBx.out
          rw [HBx.out.2.2.1] at j1
          rw [HBx.out.2.2.1, HBx.out.1] at j2
          refine ⟨?_, ((kps_drew W).trans (kps_set (by omega) (by omega) 0 _)).trans (kps_set (Nat.le_refl _) (by omega) 0 _), ((kf_drew W).trans (kf_set (HBx.out.2.2.1 ▸ HI.out.drew.ob) 0 _)).trans (kf_set (HBx.out.1 ▸ j1.mb) 0 _), ?_, ?_⟩
          · rw [hr, List.length_append, List.length_singleton, Int.natCast_add, HNp.out]; exact j2
          · have := cell_of_one j1.mb; rw [HBx.out.1, HNp.out] at this; exact this
          · rw [← HBx.out.1]; simp [World.frozen?, j1.mb]
        have HFin : Hid (∀ r : Bool, okP L (pre ++ [((x1, x2), xb)]) = r → _) := fin
        clear fin hpl
        cases hob : okP L pre with
        | false =>
          rw [hob] at co hstep
          simp only [Bool.false_and] at hstep
          obtain ⟨f1, f2, f3, f4, f5⟩ := HFin.out false hstep
          have HF : Hid _ := And.intro f1 (And.intro f2 f3)
          clear f1 f2 f3 HFin
          refine reg23_F l' _ _ (by rintro ⟨a, w, h⟩; exact h) (fun _ _ _ _ h => h) bo N b10 g5 nL cc5 pre.length Bx x1 x2 xb v1 v2 vb W hkn ⟨cN, cw, c3, c4, c5, cx0, cx1⟩ co zo hNo ?_
          gi_wp2
          exact ⟨HF.out.2.2, HF.out.2.1, HF.out.1, fun h => by unfold IsT at h; cases h⟩
        | true =>
          rw [hob] at co hstep
          simp only [Bool.true_and] at hstep
          by_cases hxy : v1 = x1 ∧ v2 = x2 ∧ vb = xb
          · obtain ⟨rfl, rfl, rfl⟩ := hxy
            obtain ⟨f1, f2, f3, f4, f5⟩ := HFin.out true (hstep.trans (by simp))
            have HF : Hid _ := And.intro f1 (And.intro f2 f3)
            clear f1 f2 f3 HFin
            refine reg23_E l' _ _ (by rintro ⟨a, w, h⟩; exact h) (fun _ _ _ _ h => h) bo N b10 g5 nL cc5 pre.length Bx v1 v2 vb W hkn ⟨cN, cw, c3, c4, c5, cx0, cx1⟩ co zo hNo ?_
            gi_wp2
            exact ⟨HF.out.2.2, HF.out.2.1, HF.out.1, fun h => by unfold IsT at h; cases h⟩
          · obtain ⟨f1, f2, f3, f4, f5⟩ := HFin.out false (hstep.trans (decide_eq_false (fun e => hxy (by simpa [and_assoc] using e))))
            have HF : Hid _ := And.intro f1 (And.intro f2 f3)
            clear f1 f2 f3 HFin
            refine reg23_D l' _ _ (by rintro ⟨a, w, h⟩; exact h) (fun _ _ _ _ h => h) bo N b10 g5 nL cc5 pre.length Bx x1 x2 xb v1 v2 vb W hkn hxy ⟨cN, cw, c3, c4, c5, cx0, cx1⟩ co zo hNo ?_
            gi_wp2
            exact ⟨HF.out.2.2, HF.out.2.1, HF.out.1, fun h => by unfold IsT at h; cases h⟩
      · rintro D1 ys W hD rfl hI hK
        have J1 : WJ C [D1, D0] bt1 (nL : Int) e' true 1 W := by
          have hok : okP L (pc s2 s1 xs) = true := by rw [← HWk.out, okP_all]
          have hl : (pc s2 s1 xs).length = nL := by rw [← HWk.out]; exact HNL.out
          have h1 := hI.1
          rw [hok, hl] at h1
          exact h1.mark (Nat.le_trans hNc hD) hK (fun x hx => Nat.lt_of_lt_of_le (hdc x hx) hD)
        obtain ⟨m', hm'⟩ : ∃ m' : Int, (nL : Int) = m' := ⟨_, rfl⟩
        have hbm : (m' == (nL : Int)) = true := by simp [hm']
        obtain ⟨Y1, hY1⟩ : ∃ Y, W.setCell ⟨bo, 0, none⟩ (.bool true) = Y := ⟨_, rfl⟩
        have J : WJ C [D1, D0] bt1 m' e' true 1 Y1 := by have := J1.setO true; rw [HBx.out.2.2.1, hY1, hm'] at this; exact this
        have t0 : W.cell? ⟨bt1, 0, none⟩ = some (.int .i64 1) := cell_of_one J1.tb
        have o1 : W.cell? ⟨bo, 0, none⟩ = some (.bool true) := by rw [← HBx.out.2.2.1]; exact cell_of_one J1.ob
        have o2 : W.frozen? ⟨bo, 0, none⟩ = false := by rw [← HBx.out.2.2.1]; simp [World.frozen?, J1.ob]
        have o3 : W.cell? ⟨N, 0, none⟩ = some (.int .i64 m') := by rw [← HBx.out.1, ← hm']; exact cell_of_one J1.mb
        have o4 : W.cell? ⟨b10, 0, none⟩ = some (.slice a5 nL cc5) := by have := cell_of_one J1.wb; rw [HCc.out] at this; exact this
        have q0 : Y1.cell? ⟨bt1, 0, none⟩ = some (.int .i64 1) := cell_of_one J.tb
        clear hI hK hD bsx blx spx hBsl hNc hdc hsz J1 hm'
        go_wp2_with fail
        clear o1 o2 o3 o4 hbm q0
      
        obtain ⟨bt2, hbt2⟩ : ∃ b, Y1.heap.size = b := ⟨_, rfl⟩
        obtain ⟨V2, hV2⟩ : ∃ V, (Y1.alloc (.cells #[.int .i64 2] 3)).setCell ⟨N, 0, none⟩ (.int .i64 0) = V := ⟨_, rfl⟩
        have JV2 : WJ C [D1, D0] bt2 0 e' true 2 V2 := by have := J.turn 2; rw [HBx.out.1, hbt2, hV2] at this; exact this
        have t1 : (Y1.alloc (.cells #[.int .i64 2] 3)).cell? ⟨bt2, 0, none⟩ = some (.int .i64 2) := by rw [← hbt2]; simp
        have m1 : (Y1.alloc (.cells #[.int .i64 2] 3)).cell? ⟨N, 0, none⟩ = some (.int .i64 m') := by rw [← HBx.out.1]; exact cell_of_one (J.alloc _).mb
        have z1 : (Y1.alloc (.cells #[.int .i64 2] 3)).frozen? ⟨N, 0, none⟩ = false := by rw [← HBx.out.1]; simp [World.frozen?, (J.alloc (.cells #[.int .i64 2] 3)).mb]
        rw [hbt2]
        clear t0 hbt2 J hY1
        rw [rounds_succ]
        go_wp2_with fail
        try rw [hV2]
        clear t1 m1 z1 hV2
        have hsz : N ≤ V2.heap.size := by have := (Array.getElem?_eq_some_iff.1 JV2.mb).1; rw [HBx.out.1] at this; omega
        have bsx : V2.heap[Bs]? = some (.cells #[.int .i64 s1, .int .i64 s2] 24 (0, 0)) := by have := JV2.bs; rw [HCc.out] at this; exact this
        have blx : V2.cell? ⟨Bl, 0, none⟩ = some (.slice a2 xs.length cc2) := by have := cell_of_one JV2.bl; rw [HCc.out] at this; exact this
        have spx : Spl N V2 a2 xs := by have := JV2.sx; rw [HCc.out] at this; exact this
        have hBsl : Bs < V2.heap.size := (Array.getElem?_eq_some_iff.1 bsx).1
        have hxs : xs.length ≤ 1048576 := by have := HK2.out.1; omega
        have hNc : C.N ≤ V2.heap.size := by rw [HBx.out.1]; exact hsz
        have hdc : ∀ D ∈ ([D1, D0] : List Nat), D < V2.heap.size := fun D hD => (Array.getElem?_eq_some_iff.1 (JV2.hds D hD).2).1
        refine (wpIn_wide (n := n)).1 ?_
        refine wpIn_rangeFunc_ownH rfl h1 (gf := 46) (lb := #[.pointer (some ⟨Bs, 0, none⟩), .pointer (some ⟨Bl, 0, none⟩)]) rfl trivial (enters_of Try.func46 (by kernel_rfl) rfl)
          (pieces_stops (n - 1) (by omega) Bs Bl N a2 cc2 xs s1 s2 hxs V2 hsz bsx blx spx) Kps.trans (kps_b hsz hBsl) (Below.refl _ _) (fun _ => rfl)
          (IW C [D1, D0] bt2 L e' 2 stop false) (IxW C [D1, D0] bt2 L 2 stop false)
          (IW.own hNc hdc) (IxW.own hNc hdc)
          ⟨by rw [okP_nil]; exact JV2, fun _ j hj => absurd hj (by simp)⟩
          (fun x a' W => ∃ Bx, W.heap[Bx]? = some (.cells #[.int .i64 x.1.1, .int .i64 x.1.2] 24 (0, 0)) ∧ a' = { tmps := #[Value.slice aa l.length ca, Value.agg #[Value.int IntKind.i64 f, Value.int IntKind.i64 t], Value.int IntKind.i64 stop, undef, Value.pointer (some ⟨w.heap.size, 0, none⟩), Value.pointer (some ⟨w.heap.size + 1, 0, none⟩), Value.bool false, Value.slice (some ⟨W0.heap.size, 0, none⟩) (l.length + 2) (l.length + 2), Value.func (Fn.func 46) #[] #[Value.pointer (some ⟨Bs, 0, none⟩), Value.pointer (some ⟨Bl, 0, none⟩)], Value.bool true, Value.pointer (some ⟨b10, 0, none⟩), Value.bool true, Value.pointer (some ⟨N, 0, none⟩), Value.pointer (some ⟨be, 0, none⟩), Value.pointer (some ⟨bo, 0, none⟩), Value.pointer (some ⟨bt2, 0, none⟩), .pointer (some ⟨Bx, 0, none⟩), .bool x.2, Value.slice aa l.length ca, Value.slice (some ⟨W0.heap.size, 0, none⟩) (l.length + 2) (l.length + 2), u20, u21, u22, u23, u24, u25, Value.func (Fn.func 46) #[] #[Value.pointer (some ⟨Bs, 0, none⟩), Value.pointer (some ⟨Bl, 0, none⟩)], Value.bool false, Value.slice (some ⟨W0.heap.size, 0, none⟩) (l.length + 2) (l.length + 2), Value.slice aa l.length ca, Value.slice (some ⟨wc.heap.size, 0, none⟩) (l.length + 2) (l.length + 2), Value.bool true, Value.slice aa l.length ca, Value.agg #[Value.int IntKind.i64 f, Value.int IntKind.i64 t], Value.slice a5 nL cc5, Value.bool true, Value.bool true, Value.bool false, Value.bool false, Value.bool true, Value.bool false, Value.bool false, Value.slice (some ⟨W0.heap.size, 0, none⟩) (l.length + 2) (l.length + 2), vs, Value.int IntKind.i64 2, Value.bool true, Value.int IntKind.i64 1, Value.int IntKind.i64 2, Value.func (Fn.func 46) #[] #[Value.pointer (some ⟨Bs, 0, none⟩), Value.pointer (some ⟨Bl, 0, none⟩)], .agg #[.int .i64 x.1.1, .int .i64 x.1.2], .bool x.2, undef, undef, undef, undef, undef, undef, undef, undef, undef, undef, undef, undef, undef, undef, undef, undef, undef, undef, undef, undef, undef, undef, undef, undef, undef, undef, Value.int IntKind.i64 1, Value.bool true, Value.bool true, Value.bool true, Value.int IntKind.i64 m', Value.slice a5 nL cc5, Value.int IntKind.i64 ↑nL, Value.bool true, Value.bool true, Value.int IntKind.i64 1, undef, undef, undef, undef, undef, undef, undef, undef, undef, undef, undef, undef, undef, undef], defers := [] })
          (fun x a' _ X Y row hs hg hr => by obtain ⟨Bx, h2, h3⟩ := hs; exact ⟨Bx, cells_keep h2 hg hr, h3⟩)
          ?_ ?_ ?_ ?_
        · rintro l' pre x W K ⟨hI, hG⟩ hK
          have hNl : N ≤ W.heap.size := by have := (Array.getElem?_eq_some_iff.1 hI.mb).1; rw [HBx.out.1] at this; omega
          have hBl2 : Bs < W.heap.size := by have := (Array.getElem?_eq_some_iff.1 hI.bs).1; rw [HCc.out] at this; exact this
          gi_wp2
          exact hK _ _ ((KeepsOthers.alloc _ _).from _) ⟨(Below.refl _ W).alloc hNl _, Below.heap_alloc W _ _ hBl2⟩ ⟨hI.alloc _, hG⟩ ⟨W.heap.size, heap_alloc_new' _ _, rfl⟩
        · rintro l' pre x a' W hl' hr ⟨hI, hG⟩ ⟨Bx, hxb, rfl⟩ hlt
          have HI : Hid (WJ C [D1, D0] bt2 pre.length e' (okP L pre) 2 W) := hI
          have HG : Hid (IsT false → ∀ j : Nat, j < pre.length → (j : Int) ≠ stop) := hG
          have HXB : Hid (W.heap[Bx]? = some (.cells #[.int .i64 x.1.1, .int .i64 x.1.2] 24 (0, 0))) := hxb
          have HLt : Hid (pre.length < L.length) := by show _ < _; rw [HWk.out]; exact hlt
          have y1 : W.cell? ⟨bt2, 0, none⟩ = some (.int .i64 2) := cell_of_one hI.tb
          have y2 : W.cell? ⟨N, 0, none⟩ = some (.int .i64 pre.length) := by rw [← HBx.out.1]; exact cell_of_one hI.mb
          have y3 : W.cell? ⟨w.heap.size + 1, 0, none⟩ = some (.int .i64 stop) := by have := cell_of_one hI.st; rw [HCc.out] at this; exact this
          obtain ⟨np, hnp⟩ : ∃ k : Int, (pre.length : Int) = k := ⟨_, rfl⟩
          have HNp : Hid ((pre.length : Int) = np) := hnp
          rw [hnp] at y2
          clear hI hG hxb hlt hr hnp
          gi_wp2_with fail
          have hlt := HLt.out
          obtain ⟨y, hy⟩ : ∃ y, L[pre.length]? = some y := ⟨_, List.getElem?_eq_getElem hlt⟩
          have hpl : POwn W w4.heap.size (.slice a5 nL cc5) L := by have := HI.out.pl; rw [HCc.out] at this; exact this
          obtain ⟨g5, hg5, c3, c4, c5⟩ := hpl.cells hy
          have hg5N : g5 ≠ bo := by
            have := HI.out.hpl g5 (by rw [HCc.out, hg5]; rfl)
            have h2 := HBx.out
            omega
          have cw : W.drew.cell? ⟨b10, 0, none⟩ = some (.slice (some ⟨g5, 0, none⟩) nL cc5) := by have := cell_of_one HI.out.wb; rw [HCc.out, hg5] at this; exact this
          obtain ⟨⟨v1, v2⟩, vb⟩ := y
          obtain ⟨⟨x1, x2⟩, xb⟩ := x
          simp only at c3 c4 c5
          have cx0 : W.drew.cell? ⟨Bx, 0, none⟩ = some (.int .i64 x1) := by show W.cell? _ = _; rw [cell_of_row _ _ _ _ _ _ HXB.out]; rfl
          have cx1 : W.drew.cell? ⟨Bx, 1, none⟩ = some (.int .i64 x2) := by show W.cell? _ = _; rw [cell_of_row _ _ _ _ _ _ HXB.out]; rfl
          have hBxo : Bx ≠ bo := fun e => by
            have h1 := HXB.out; rw [e, ← HBx.out.2.2.1, HI.out.ob] at h1; simp at h1
          have hNo : N ≠ bo ∧ b10 ≠ bo ∧ g5 ≠ bo ∧ Bx ≠ bo := ⟨by have := HBx.out; omega, by have h1 := HI.out.hbw; rw [HCc.out] at h1; have h2 := HBx.out; simp only at h1; omega, hg5N, hBxo⟩
          have cN : W.drew.cell? ⟨N, 0, none⟩ = some (.int .i64 (pre.length : Int)) := by show W.cell? _ = _; rw [y2, HNp.out]
          have co : W.drew.cell? ⟨bo, 0, none⟩ = some (.bool (okP L pre)) := by show W.cell? _ = _; rw [← HBx.out.2.2.1]; exact cell_of_one HI.out.ob
          have zo : W.drew.frozen? ⟨bo, 0, none⟩ = false := by show W.frozen? _ = _; rw [← HBx.out.2.2.1]; simp [World.frozen?, HI.out.ob]
          have zN : W.frozen? ⟨N, 0, none⟩ = false := by rw [← HBx.out.1]; simp [World.frozen?, HI.out.mb]
          have hkn : pre.length < nL := by have := HNL.out; omega
          have hstep := okP_step (x := ((x1, x2), xb)) hy
          have hwp : IntKind.i64.wrap (np + 1) = np + 1 := by have h1 := HNp.out; have h2 := HN4.out; rw [IntKind.wrap_i64]; omega
          have fin : ∀ r : Bool, okP L (pre ++ [((x1, x2), xb)]) = r → WJ C [D1, D0] bt2 ((pre ++ [((x1, x2), xb)]).length : Nat) e' (okP L (pre ++ [((x1, x2), xb)])) 2 ((W.drew.setCell ⟨bo, 0, none⟩ (.bool r)).setCell ⟨N, 0, none⟩ (.int .i64 (np + 1))) ∧ Kps N Bs W ((W.drew.setCell ⟨bo, 0, none⟩ (.bool r)).setCell ⟨N, 0, none⟩ (.int .i64 (np + 1))) ∧ KeepsFrom V2.heap.size W ((W.drew.setCell ⟨bo, 0, none⟩ (.bool r)).setCell ⟨N, 0, none⟩ (.int .i64 (np + 1))) ∧ (W.drew.setCell ⟨bo, 0, none⟩ (.bool r)).cell? ⟨N, 0, none⟩ = some (.int .i64 np) ∧ (W.drew.setCell ⟨bo, 0, none⟩ (.bool r)).frozen? ⟨N, 0, none⟩ = false := by
            intro r hr
            have j1 := HI.out.drew.setO r
            have j2 := j1.setM (np + 1)
            have hbs := HI.out.hBs
            rw [HCc.out] at hbs
            simp only at hbs
            have hB3 := HBx.out
            rw [HBx.out.2.2.1] at j1
            rw [HBx.out.2.2.1, HBx.out.1] at j2
            refine ⟨?_, ((kps_drew W).trans (kps_set (by omega) (by omega) 0 _)).trans (kps_set (Nat.le_refl _) (by omega) 0 _), ((kf_drew W).trans (kf_set (HBx.out.2.2.1 ▸ HI.out.drew.ob) 0 _)).trans (kf_set (HBx.out.1 ▸ j1.mb) 0 _), ?_, ?_⟩
            · rw [hr, List.length_append, List.length_singleton, Int.natCast_add, HNp.out]; exact j2
            · have := cell_of_one j1.mb; rw [HBx.out.1, HNp.out] at this; exact this
            · rw [← HBx.out.1]; simp [World.frozen?, j1.mb]
          have HFin : Hid (∀ r : Bool, okP L (pre ++ [((x1, x2), xb)]) = r → _) := fin
          clear fin hpl
          cases hob : okP L pre with
          | false =>
            rw [hob] at co hstep
            simp only [Bool.false_and] at hstep
            obtain ⟨f1, f2, f3, f4, f5⟩ := HFin.out false hstep
            have HF : Hid _ := And.intro f1 (And.intro f2 f3)
            clear f1 f2 f3 HFin
            refine reg23_F l' _ _ (by rintro ⟨a, w, h⟩; exact h) (fun _ _ _ _ h => h) bo N b10 g5 nL cc5 pre.length Bx x1 x2 xb v1 v2 vb W hkn ⟨cN, cw, c3, c4, c5, cx0, cx1⟩ co zo hNo ?_
            gi_wp2
            exact ⟨HF.out.2.2, HF.out.2.1, HF.out.1, fun h => by unfold IsT at h; cases h⟩
          | true =>
            rw [hob] at co hstep
            simp only [Bool.true_and] at hstep
            by_cases hxy : v1 = x1 ∧ v2 = x2 ∧ vb = xb
            · obtain ⟨rfl, rfl, rfl⟩ := hxy
              obtain ⟨f1, f2, f3, f4, f5⟩ := HFin.out true (hstep.trans (by simp))
              have HF : Hid _ := And.intro f1 (And.intro f2 f3)
              clear f1 f2 f3 HFin
              refine reg23_E l' _ _ (by rintro ⟨a, w, h⟩; exact h) (fun _ _ _ _ h => h) bo N b10 g5 nL cc5 pre.length Bx v1 v2 vb W hkn ⟨cN, cw, c3, c4, c5, cx0, cx1⟩ co zo hNo ?_
              gi_wp2
              exact ⟨HF.out.2.2, HF.out.2.1, HF.out.1, fun h => by unfold IsT at h; cases h⟩
            · obtain ⟨f1, f2, f3, f4, f5⟩ := HFin.out false (hstep.trans (decide_eq_false (fun e => hxy (by simpa [and_assoc] using e))))
              have HF : Hid _ := And.intro f1 (And.intro f2 f3)
              clear f1 f2 f3 HFin
              refine reg23_D l' _ _ (by rintro ⟨a, w, h⟩; exact h) (fun _ _ _ _ h => h) bo N b10 g5 nL cc5 pre.length Bx x1 x2 xb v1 v2 vb W hkn hxy ⟨cN, cw, c3, c4, c5, cx0, cx1⟩ co zo hNo ?_
              gi_wp2
              exact ⟨HF.out.2.2, HF.out.2.1, HF.out.1, fun h => by unfold IsT at h; cases h⟩
        · rintro D2 ys W hD rfl hI hK
          have J1 : WJ C [D2, D1, D0] bt2 (nL : Int) e' true 2 W := by
            have hok : okP L (pc s2 s1 xs) = true := by rw [← HWk.out, okP_all]
            have hl : (pc s2 s1 xs).length = nL := by rw [← HWk.out]; exact HNL.out
            have h1 := hI.1
            rw [hok, hl] at h1
            exact h1.mark (Nat.le_trans hNc hD) hK (fun x hx => Nat.lt_of_lt_of_le (hdc x hx) hD)
          obtain ⟨m', hm'⟩ : ∃ m' : Int, (nL : Int) = m' := ⟨_, rfl⟩
          have hbm : (m' == (nL : Int)) = true := by simp [hm']
          obtain ⟨Y2, hY2⟩ : ∃ Y, W.setCell ⟨bo, 0, none⟩ (.bool true) = Y := ⟨_, rfl⟩
          have J : WJ C [D2, D1, D0] bt2 m' e' true 2 Y2 := by have := J1.setO true; rw [HBx.out.2.2.1, hY2, hm'] at this; exact this
          have t0 : W.cell? ⟨bt2, 0, none⟩ = some (.int .i64 2) := cell_of_one J1.tb
          have o1 : W.cell? ⟨bo, 0, none⟩ = some (.bool true) := by rw [← HBx.out.2.2.1]; exact cell_of_one J1.ob
          have o2 : W.frozen? ⟨bo, 0, none⟩ = false := by rw [← HBx.out.2.2.1]; simp [World.frozen?, J1.ob]
          have o3 : W.cell? ⟨N, 0, none⟩ = some (.int .i64 m') := by rw [← HBx.out.1, ← hm']; exact cell_of_one J1.mb
          have o4 : W.cell? ⟨b10, 0, none⟩ = some (.slice a5 nL cc5) := by have := cell_of_one J1.wb; rw [HCc.out] at this; exact this
          have q0 : Y2.cell? ⟨bt2, 0, none⟩ = some (.int .i64 2) := cell_of_one J.tb
          clear hI hK hD bsx blx spx hBsl hNc hdc hsz J1 hm'
          go_wp2_with fail
          clear o1 o2 o3 o4 hbm q0
        
          obtain ⟨bt3, hbt3⟩ : ∃ b, Y2.heap.size = b := ⟨_, rfl⟩
          obtain ⟨Z, hZ⟩ : ∃ Z, Y2.alloc (.cells #[.int .i64 3] 3) = Z := ⟨_, rfl⟩
          have JZ : WJ C [D2, D1, D0] bt2 m' e' true 2 Z := by rw [← hZ]; exact J.alloc _
          have t1 : Z.cell? ⟨bt3, 0, none⟩ = some (.int .i64 3) := by rw [← hZ, ← hbt3]; simp
          have o1 : Z.cell? ⟨bo, 0, none⟩ = some (.bool true) := by rw [← HBx.out.2.2.1]; exact cell_of_one JZ.ob
          have o2 : Z.cell? ⟨be, 0, none⟩ = some (.int .i64 e') := by rw [← HBx.out.2.1]; exact cell_of_one JZ.eb
          have o3 : Z.cell? ⟨w.heap.size + 1, 0, none⟩ = some (.int .i64 stop) := by have := cell_of_one JZ.st; rw [HCc.out] at this; exact this
          have o4 : Z.cell? ⟨b10, 0, none⟩ = some (.slice a5 nL cc5) := by have := cell_of_one JZ.wb; rw [HCc.out] at this; exact this
          have k2 := (JZ.hds D2 (by simp)).2
          have k1 := (JZ.hds D1 (by simp)).2
          have k0 := (JZ.hds D0 (by simp)).2
          have hnd := JZ.nd
          simp only [List.nodup_cons, List.mem_cons, List.not_mem_nil, or_false, not_or, not_false_eq_true, List.nodup_nil, and_true] at hnd
          obtain ⟨⟨n21, n20⟩, n10⟩ := hnd
          have K1 : (Z.putObj D2 (.deferred none)).heap[D1]? = some (.deferred (some [])) := (World.putObj_heap_other (fun e => n21 e.symm)).trans k1
          have K0 : ((Z.putObj D2 (.deferred none)).putObj D1 (.deferred none)).heap[D0]? = some (.deferred (some [])) := (World.putObj_heap_other (fun e => n10 e.symm)).trans ((World.putObj_heap_other (fun e => n20 e.symm)).trans k0)
          have HB3 : Hid (Below w.heap.size w (((Z.putObj D2 (.deferred none)).putObj D1 (.deferred none)).putObj D0 (.deferred none))) := by
            have hw : C.w = w := by rw [HCc.out]
            have l0 := JZ.low
            rw [hw] at l0
            have hN0 := JZ.hN
            rw [hw] at hN0
            have g2 := (JZ.hds D2 (by simp)).1
            have g1 := (JZ.hds D1 (by simp)).1
            have g0 := (JZ.hds D0 (by simp)).1
            have b2 := belowK_b (w := w) (Nat.le_refl _) Z D2 _ (.deferred none) (by omega) k2 rfl rfl
            have b1 := belowK_b (w := w) (Nat.le_refl _) (Z.putObj D2 (.deferred none)) D1 _ (.deferred none) (by omega) K1 rfl rfl
            have b0 := belowK_b (w := w) (Nat.le_refl _) ((Z.putObj D2 (.deferred none)).putObj D1 (.deferred none)) D0 _ (.deferred none) (by omega) K0 rfl rfl
            exact ((l0.trans b2).trans b1).trans b0
          have HKs : Hid (Z.heap[D2]? = some (.deferred (some [])) ∧ (Z.putObj D2 (.deferred none)).heap[D1]? = some (.deferred (some [])) ∧ ((Z.putObj D2 (.deferred none)).putObj D1 (.deferred none)).heap[D0]? = some (.deferred (some []))) := ⟨k2, K1, K0⟩
          rw [hbt3]
          clear t0 hbt3 J JZ k2 k1 k0 K1 K0 n21 n20 n10
          rw [rounds_succ]
          rcases HE.out with ⟨rfl, hs0, hs1⟩ | ⟨rfl, hs⟩
          · go_wp2
            change bodyPostM Fence.wide n Try.prog _ _ Exit.ret _ _
            refine ⟨by simp, .inl ⟨_, _, rfl, run_takeDeferred HKs.out.1, ?_⟩⟩
            refine ⟨by simp, .inl ⟨_, _, rfl, run_takeDeferred HKs.out.2.1, ?_⟩⟩
            refine ⟨by simp, .inl ⟨_, _, rfl, run_takeDeferred HKs.out.2.2, ?_⟩⟩
            exact ⟨_, results_tmp rfl _ _ _, rfl, HB3.out⟩
          · by_cases hs0 : 0 ≤ stop
            · have hs1 : ¬ stop < (nL : Int) := fun e => hs ⟨hs0, e⟩
              clear hs
              go_wp2
              change bodyPostM Fence.wide n Try.prog _ _ Exit.ret _ _
              refine ⟨by simp, .inl ⟨_, _, rfl, run_takeDeferred HKs.out.1, ?_⟩⟩
              refine ⟨by simp, .inl ⟨_, _, rfl, run_takeDeferred HKs.out.2.1, ?_⟩⟩
              refine ⟨by simp, .inl ⟨_, _, rfl, run_takeDeferred HKs.out.2.2, ?_⟩⟩
              exact ⟨_, results_tmp rfl _ _ _, rfl, HB3.out⟩
            · clear hs
              go_wp2
              change bodyPostM Fence.wide n Try.prog _ _ Exit.ret _ _
              refine ⟨by simp, .inl ⟨_, _, rfl, run_takeDeferred HKs.out.1, ?_⟩⟩
              refine ⟨by simp, .inl ⟨_, _, rfl, run_takeDeferred HKs.out.2.1, ?_⟩⟩
              refine ⟨by simp, .inl ⟨_, _, rfl, run_takeDeferred HKs.out.2.2, ?_⟩⟩
              exact ⟨_, results_tmp rfl _ _ _, rfl, HB3.out⟩
        
        · rintro D c' pre W _ _ ⟨h, _⟩ _
          unfold IsT at h; cases h
      
      · rintro D c' pre W _ _ ⟨h, _⟩ _
        unfold IsT at h; cases h)

theorem walks_any {v : Value} {l : List Sp} {w : World} (h : Ls w v l) (f t stop : Int) (hm : l.length ≤ 1048576) :
    Calls Try.prog 6 #[v, .agg #[.int .i64 f, .int .i64 t], .int .i64 stop] w fun e w' => e = .returned (.bool true) ∧ Below w.heap.size w w' := by
  have h' := h
  obtain ⟨⟨a, c, rfl, _⟩, _⟩ := h
  exact (callsIn_wide (n := 9)).1 (walks_in a c l f t stop w h' hm 9 (by omega))

end Go.Proofs.Ytppkdkbdcdjikac
