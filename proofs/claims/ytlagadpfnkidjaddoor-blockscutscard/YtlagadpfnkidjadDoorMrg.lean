import Derived.Test.YtlagadpfnkidjadDoorJoi
namespace Go.Proofs.YtlagadpfnkidjadDoor.C
open Go.RowKit

def lenV : Value → Nat
  | .slice _ n _ => n
  | _ => 0

theorem SOwn.drewN {w : World} {base : Nat} {v : Value} {l : List Sp} (h : SOwn w base v l) (n : Nat) : SOwn (w.drewN n) base v l := h
theorem SOwn.lt {w : World} {base : Nat} {v : Value} {l : List Sp} (h : SOwn w base v l) : ∀ k, v.ownBlock = some k → base ≤ k ∧ k < w.heap.size := World.ownsRow.lt h
theorem SOwn.shape {w : World} {base : Nat} {v : Value} {l : List Sp} (h : SOwn w base v l) : ∃ a c, v = .slice a l.length c := own_shape h
theorem SOwn.below {w w' : World} {base : Nat} {v : Value} {l : List Sp} (h : SOwn w base v l) (hb : Below w.heap.size w w') : SOwn w' base v l := by
  refine ⟨h.1, ?_⟩
  rcases h.2 with hn | ⟨g, cap, cur, hv, h1, h2, h3⟩
  · exact .inl hn
  · have hg : g < w.heap.size := (h.lt g (by rw [hv]; rfl)).2
    exact .inr ⟨g, cap, cur, hv, h1, (hb.block g hg).trans h2, h3⟩
theorem SOwn.base {w : World} {base base' : Nat} {v : Value} {l : List Sp} (h : SOwn w base v l) (hb : base' ≤ base) : SOwn w base' v l := by
  refine ⟨h.1, ?_⟩
  rcases h.2 with hn | ⟨g, cap, cur, hv, h1, h2, h3⟩
  · exact .inl hn
  · exact .inr ⟨g, cap, cur, hv, by omega, h2, h3⟩

theorem Spa.tail {w : World} {g off : Nat} {p : Sp} {r : List Sp} (h : Spa w (some ⟨g, off, none⟩) (p :: r)) : Spa w (some ⟨g, off + 2, none⟩) r := by
  rcases h with h | ⟨g', off', ha, h⟩
  · cases h
  · simp only [Option.some.injEq, Addr.mk.injEq, and_true] at ha
    obtain ⟨rfl, rfl⟩ := ha
    refine .inr ⟨g, off + 2, rfl, fun i q hq => ?_⟩
    have := h (i + 1) q (by simpa using hq)
    rw [show off + (i + 1) * 2 = off + 2 + i * 2 from by omega] at this
    exact this
theorem Spa.tail' {w : World} {g off c : Nat} {p : Sp} {r : List Sp} (h : Spa w (some ⟨g, off, none⟩) (p :: r)) (hc : r.length + 1 ≤ c) : Spa w (if c = 1 then some ⟨g, off, none⟩ else some ⟨g, off + 2, none⟩) r := by
  split
  · exact .inl (List.eq_nil_of_length_eq_zero (by omega))
  · exact h.tail
theorem Spa.head {w : World} {a : Option Addr} {p : Sp} {r : List Sp} (h : Spa w a (p :: r)) : ∃ g off, a = some ⟨g, off, none⟩ ∧ w.cell? ⟨g, off, none⟩ = some (.int .i64 p.1) ∧ w.cell? ⟨g, off + 1, none⟩ = some (.int .i64 p.2) := by
  obtain ⟨g, off, ha, h1, h2⟩ := h.at (k := 0) (p := p) rfl
  exact ⟨g, off, ha, by simpa using h1, by simpa using h2⟩

def MergePost (w : World) (l m : List Sp) (e : Ending) (w' : World) : Prop := ∃ v u, e = .returned v ∧ SOwn w' w.heap.size v u ∧ Uni l m u ∧ Below w.heap.size w w'

theorem mg_len {a b out ra rb : List Sp} (h : Mg a b out ra rb) (hm : a.length + b.length ≤ 1048576) : out.length ≤ 1048576 := by have := h.len; omega

set_option maxRecDepth 100000 in
set_option maxHeartbeats 4000000 in
theorem merge_any (a b : Option Addr) (ca cb : Nat) (l m : List Sp) (w : World) (h : Spa w a l) (h' : Spa w b m) (hl : Rt 0 l) (hr : Rt 0 m) (hm : l.length + m.length ≤ 1048576) (hca : l.length ≤ ca ∧ ca ≤ 9223372036854775807) (hcb : m.length ≤ cb ∧ cb ≤ 9223372036854775807) :
    Calls Tryd.prog 114 #[.slice a l.length ca, .slice b m.length cb] w (MergePost w l m) := by
  obtain ⟨i0, hi, hz0, hz1, hz2⟩ := info_parts Tryd.info_span
  have HM0 : Hid (Mg l m [] l m) := Mg.start hl hr
  have HA0 : Hid (Spa w a l ∧ Spa w b m) := ⟨h, h'⟩
  have HLM : Hid (l.length + m.length ≤ 1048576) := hm
  have hl1 : l.length ≤ 1048576 := by omega
  have hm1 : m.length ≤ 1048576 := by omega
  clear h h' hl hr
  go_enter Tryd.func114, Tryd.ntmps114
  go_wp2_with (at_make; refine wpList_make_own _ rfl _ _ 38 rfl w.heap.size 42 i0 (.agg #[.int .i64 0, .int .i64 0]) 2 Tryd.underlying38 hi hz0 hz1 .i64 .i64 _ (l.length + m.length) rfl rfl (by simp) (by rw [hz2]; omega) (by unfold maxLen; omega) (Nat.le_refl _) ?_; intro w1 hown1 hgrow1)
  have HB1 : Hid (Below w.heap.size w w1) := (Below.refl _ _).grown hgrow1 (Nat.le_refl _) (by intro j hj; cases hj)
  have HO1 : Hid (SOwn w1 w.heap.size (.slice (some ⟨w.heap.size, 0, none⟩) 0 (l.length + m.length)) []) := hown1
  clear hown1 hgrow1
  go_loopw [0, 1, 5] (fun x y v wr => ∃ (ra rb out : List Sp) (a' b' : Option Addr) (ca' cb' : Nat), x = .slice a' ra.length ca' ∧ y = .slice b' rb.length cb' ∧ Spa w a' ra ∧ Spa w b' rb ∧ (ra.length ≤ ca' ∧ ca' ≤ 9223372036854775807) ∧ (rb.length ≤ cb' ∧ cb' ≤ 9223372036854775807) ∧ SOwn wr w.heap.size v out ∧ Mg l m out ra rb ∧ Below w.heap.size w wr) (fun x y _ _ => lenV x + lenV y)
  case atStart => exact ⟨l, m, [], a, b, ca, cb, rfl, rfl, HA0.out.1, HA0.out.2, hca, hcb, HO1.out, HM0.out, HB1.out⟩
  case round =>
    obtain ⟨ra, rb, out, a', b', ca', cb', rfl, rfl, hsa, hsb, hka, hkb, hso, hmg, hbe⟩ := hrel
    have HMG : Hid (Mg l m out ra rb) := hmg
    have HSA : Hid (Spa w a' ra) := hsa
    have HSB : Hid (Spa w b' rb) := hsb
    have HO : Hid (SOwn wr w.heap.size u5 out) := hso
    have HB : Hid (Below w.heap.size w wr) := hbe
    have hol := mg_len hmg HLM.out
    have hle := hmg.len
    clear hmg hsa hsb hso hbe HM0 HA0 HO1 HB1
    cases ra with
    | nil =>
      cases rb with
      | nil =>
        simp only [List.length_nil] at *
        go_wp2
        go_ret
        exact ⟨_, out, rfl, HO.out, HMG.out.done, HB.out⟩
      | cons q rb =>
        obtain ⟨g, off, rfl, d1, d2⟩ := (HSB.out.below HB.out).head
        have HT := HSB.out.tail' (c := cb') (by simpa using hkb.1)
        obtain ⟨q1, q2⟩ := q
        have HMG2 : Hid (Mg l m (jo out (q1, q2)) rb []) := HMG.out.swap.step (fun _ h => by cases h)
        simp only [List.length_nil, List.length_cons] at *
        clear HMG
        generalize hn : rb.length + 1 = n at *
        have hn0 : (0 : Int) < (n : Int) := by omega
        have hn1 : (1 : Int) ≤ (n : Int) := by omega
        have HN : Hid (rb.length = n - 1) := by unfold Hid; omega
        go_wp2_with fail
        go_quiet (fail)
        go_wp2_with fail
        refine (join_any _ _ out q1 q2 _ (HO.out.drewN _) (by have := HB.out.size; exact this) (by omega)).mono ?_
        rintro e w2 ⟨v2, rfl, hs2, hg2⟩
        have HB2 : Hid (Below w.heap.size w w2) := (below_drewN HB.out _).grown hg2 HB.out.size (fun j hj => (HO.out.lt j hj).1)
        have HO2 : Hid (SOwn w2 w.heap.size v2 (jo out (q1, q2))) := hs2
        clear hs2 hg2 HO HB
        go_wp2
        go_roundw
        case rel => exact ⟨rb, [], _, _, a', cb' - 1, ca', by rw [HN.out], rfl, HT, .inl rfl, by have := HN.out; omega, hka, HO2.out, HMG2.out, HB2.out⟩
        case measure => simp [lenV]; try omega
    | cons p ra =>
      cases rb with
      | nil =>
        obtain ⟨g, off, rfl, d1, d2⟩ := (HSA.out.below HB.out).head
        have HT := HSA.out.tail' (c := ca') (by simpa using hka.1)
        obtain ⟨p1, p2⟩ := p
        have HMG2 : Hid (Mg l m (jo out (p1, p2)) ra []) := HMG.out.step (fun _ h => by cases h)
        simp only [List.length_nil, List.length_cons] at *
        clear HMG
        generalize hn : ra.length + 1 = n at *
        have hn0 : (0 : Int) < (n : Int) := by omega
        have hn1 : (1 : Int) ≤ (n : Int) := by omega
        have hnz : ((n : Int) == 0) = false := beq_false_of_ne (by omega)
        have HN : Hid (ra.length = n - 1) := by unfold Hid; omega
        go_wp2_with fail
        go_quiet (fail)
        go_wp2_with fail
        refine (join_any _ _ out p1 p2 _ (HO.out.drewN _) (by have := HB.out.size; exact this) (by omega)).mono ?_
        rintro e w2 ⟨v2, rfl, hs2, hg2⟩
        have HB2 : Hid (Below w.heap.size w w2) := (below_drewN HB.out _).grown hg2 HB.out.size (fun j hj => (HO.out.lt j hj).1)
        have HO2 : Hid (SOwn w2 w.heap.size v2 (jo out (p1, p2))) := hs2
        clear hs2 hg2 HO HB
        go_wp2
        go_roundw
        case rel => exact ⟨ra, [], _, _, b', ca' - 1, cb', by rw [HN.out], rfl, HT, .inl rfl, by have := HN.out; omega, hkb, HO2.out, HMG2.out, HB2.out⟩
        case measure => simp [lenV]; try omega
      | cons q rb =>
        obtain ⟨g, off, rfl, d1, d2⟩ := (HSA.out.below HB.out).head
        obtain ⟨g', off', rfl, d1', d2'⟩ := (HSB.out.below HB.out).head
        have HT := HSA.out.tail' (c := ca') (by simpa using hka.1)
        have HT' := HSB.out.tail' (c := cb') (by simpa using hkb.1)
        obtain ⟨p1, p2⟩ := p
        obtain ⟨q1, q2⟩ := q
        have HP : Hid (p1 ≤ q1 → ∀ t ∈ (q1, q2) :: rb, p1 ≤ t.1) := fun h t ht => by
          rcases List.mem_cons.mp ht with rfl | ht
          · exact h
          · have := HMG.out.okB.next t ht; simp only at this; omega
        have HP' : Hid (q1 ≤ p1 → ∀ t ∈ (p1, p2) :: ra, q1 ≤ t.1) := fun h t ht => by
          rcases List.mem_cons.mp ht with rfl | ht
          · exact h
          · have := HMG.out.okA.next t ht; simp only at this; omega
        simp only at d1 d2 d1' d2'
        simp only [List.length_cons] at *
        by_cases hc : q1 < p1
        · have HMG2 : Hid (Mg l m (jo out (q1, q2)) rb ((p1, p2) :: ra)) := HMG.out.swap.step (HP'.out (by omega))
          clear HMG HP HP'
          generalize hn : ra.length + 1 = n at *
          generalize hk : rb.length + 1 = k at *
          have hn0 : (0 : Int) < (n : Int) := by omega
          have hn1 : (1 : Int) ≤ (n : Int) := by omega
          have hk0 : (0 : Int) < (k : Int) := by omega
          have hkd : decide (0 < k) = true := decide_eq_true (by omega)
          have hk1 : (1 : Int) ≤ (k : Int) := by omega
          have hnz : ((n : Int) == 0) = false := beq_false_of_ne (by omega)
          have HN : Hid (ra.length + 1 = n) := hn
          have HK : Hid (rb.length = k - 1) := by unfold Hid; omega
          go_wp2_with fail
          go_quiet (fail)
          go_wp2_with fail
          refine (join_any _ _ out q1 q2 _ (HO.out.drewN _) (by have := HB.out.size; exact this) (by omega)).mono ?_
          rintro e w2 ⟨v2, rfl, hs2, hg2⟩
          have HB2 : Hid (Below w.heap.size w w2) := (below_drewN HB.out _).grown hg2 HB.out.size (fun j hj => (HO.out.lt j hj).1)
          have HO2 : Hid (SOwn w2 w.heap.size v2 (jo out (q1, q2))) := hs2
          clear hs2 hg2 HO HB
          go_wp2
          go_roundw
          case rel => exact ⟨rb, (p1, p2) :: ra, _, _, _, cb' - 1, ca', by rw [HK.out], by rw [← HN.out]; rfl, HT', HSA.out, by have := HK.out; omega, by have := HN.out; simp; omega, HO2.out, HMG2.out, HB2.out⟩
          case measure => simp [lenV]; try omega
        · have HMG2 : Hid (Mg l m (jo out (p1, p2)) ra ((q1, q2) :: rb)) := HMG.out.step (HP.out (by omega))
          clear HMG HP HP'
          generalize hn : ra.length + 1 = n at *
          generalize hk : rb.length + 1 = k at *
          have hn0 : (0 : Int) < (n : Int) := by omega
          have hn1 : (1 : Int) ≤ (n : Int) := by omega
          have hk0 : (0 : Int) < (k : Int) := by omega
          have hkd : decide (0 < k) = true := decide_eq_true (by omega)
          have hk1 : (1 : Int) ≤ (k : Int) := by omega
          have hnz : ((n : Int) == 0) = false := beq_false_of_ne (by omega)
          have HN : Hid (ra.length = n - 1) := by unfold Hid; omega
          have HK : Hid (rb.length + 1 = k) := hk
          go_wp2_with fail
          go_quiet (fail)
          go_wp2_with fail
          refine (join_any _ _ out p1 p2 _ (HO.out.drewN _) (by have := HB.out.size; exact this) (by omega)).mono ?_
          rintro e w2 ⟨v2, rfl, hs2, hg2⟩
          have HB2 : Hid (Below w.heap.size w w2) := (below_drewN HB.out _).grown hg2 HB.out.size (fun j hj => (HO.out.lt j hj).1)
          have HO2 : Hid (SOwn w2 w.heap.size v2 (jo out (p1, p2))) := hs2
          clear hs2 hg2 HO HB
          go_wp2
          go_roundw
          case rel => exact ⟨ra, (q1, q2) :: rb, _, _, _, ca' - 1, cb', by rw [HN.out], by rw [← HK.out]; rfl, HT, HSB.out, by have := HN.out; omega, by have := HK.out; simp; omega, HO2.out, HMG2.out, HB2.out⟩
          case measure => simp [lenV]; try omega

end Go.Proofs.YtlagadpfnkidjadDoor.C
