import Derived.Test.YtjolflpmeodnaahPlR3
import Derived.Test.YtjolflpmeodnaahPlAw
import Derived.Test.YtjolflpmeodnaahPlCo
namespace Go.Proofs.Ytjolflpmeodnaah
set_option linter.unusedVariables false
open Go.RowKit

theorem NxP.uniq {p a E n m : Int} {l : List Ct} (h : NxP p a l E n) (h' : NxP p a l E m) : n = m := by
  by_cases hE : E = 0
  · exact NR.uniq (h.2 hE) (h'.2 hE)
  · rw [h.1 hE, h'.1 hE]
theorem WnP.uniq {p a k n m : Int} {l : List Ct} (ha : 0 ≤ a) (h : WnP p a k l (rightE l) n) (h' : WnP p a k l (rightE l) m) : n = m := by
  by_cases hE : rightE l = 0
  · by_cases hk : k < 1
    · rw [(h.2 hE).1 hk, (h'.2 hE).1 hk]
    · exact WR.uniq (rightE_ok.mp hE).2.1 ha ((h.2 hE).2 (by omega)) ((h'.2 hE).2 (by omega))
  · rw [h.1 hE, h'.1 hE]

set_option maxHeartbeats 4000000 in
set_option maxRecDepth 100000 in
/-- All calls of a list in two places. -/
theorem says_any (a b : Option Addr) (ca cb : Nat) (l : List Ct) (p x y m : Int) (w : World) (ha : Cta w a l) (hb : Cta w b l) (hn : l.length ≤ 9223372036854775807) (hm : m ≤ 9223372036854775807) :
    Calls Try.prog 6 #[.slice a l.length ca, .slice b l.length cb, .int .i64 p, .int .i64 x, .int .i64 y, .int .i64 m] w fun e w' => e = .returned (.bool true) ∧ Below w.heap.size w w' := by
  have HA : Hid (∀ W, Below w.heap.size w W → Cta W a l) := fun W h => ha.below h
  have HB : Hid (∀ W, Below w.heap.size w W → Cta W b l) := fun W h => hb.below h
  have C1 := right2_any b cb l w hb hn
  have C2 : Hid (∀ W, Below w.heap.size w W → Calls Try.prog 11 #[.slice b l.length cb, .int .i64 p, .int .i64 x] W fun e w' => e = .returned (.int .i64 (if rightE l = 0 then rt p (cn x) l else 0)) ∧ Below W.heap.size W w') := fun W h => rateR_any b cb l p x W (HB.out W h) hn
  have C3 : Hid (∀ W, Below w.heap.size w W → Calls Try.prog 12 #[.slice b l.length cb, .int .i64 p, .int .i64 x] W fun e w' => (∃ n, e = .returned (.int .i64 n) ∧ NxP p (cn x) l (rightE l) n) ∧ Below W.heap.size W w') := fun W h => nextR_any b cb l p x W (HB.out W h) hn
  have C4 : Hid (∀ W, Below w.heap.size w W → Calls Try.prog 13 #[.slice b l.length cb, .int .i64 p, .int .i64 x, .int .i64 y] W fun e w' => e = .returned (.int .i64 (if rightE l = 0 ∧ cn x < cn y then tot p (cn x) (cn y) l else 0)) ∧ Below W.heap.size W w') := fun W h => totalR_any b cb l p x y W (HB.out W h) hn
  have C5 : Hid (∀ W, Below w.heap.size w W → Calls Try.prog 14 #[.slice b l.length cb, .int .i64 p, .int .i64 x, .int .i64 m] W fun e w' => (∃ t, e = .returned (.int .i64 t) ∧ WnP p (cn x) m l (rightE l) t) ∧ Below W.heap.size W w') := fun W h => whenR_any b cb l p x m W (HB.out W h) hn hm
  have C6 : Hid (∀ W, Below w.heap.size w W → Calls Try.prog 15 #[.slice a l.length ca] W fun e w' => e = .returned (.int .i64 (rightE l)) ∧ Below W.heap.size W w') := fun W h => right9_any a ca l W (HA.out W h) hn
  have C7 : Hid (∀ W, Below w.heap.size w W → Calls Try.prog 8 #[.slice a l.length ca, .int .i64 p, .int .i64 x] W fun e w' => e = .returned (.int .i64 (if rightE l = 0 then rt p (cn x) l else 0)) ∧ Below W.heap.size W w') := fun W h => rate9_any a ca l p x W (HA.out W h) hn
  have C8 : Hid (∀ W, Below w.heap.size w W → Calls Try.prog 16 #[.slice a l.length ca, .int .i64 p, .int .i64 x] W fun e w' => (∃ n, e = .returned (.int .i64 n) ∧ NxP p (cn x) l (rightE l) n) ∧ Below W.heap.size W w') := fun W h => next9_any a ca l p x W (HA.out W h) hn
  have C9 : Hid (∀ W, Below w.heap.size w W → Calls Try.prog 17 #[.slice a l.length ca, .int .i64 p, .int .i64 x, .int .i64 y] W fun e w' => e = .returned (.int .i64 (if rightE l = 0 ∧ cn x < cn y then tot p (cn x) (cn y) l else 0)) ∧ Below W.heap.size W w') := fun W h => total9_any a ca l p x y W (HA.out W h) hn
  have C10 : Hid (∀ W, Below w.heap.size w W → Calls Try.prog 9 #[.slice a l.length ca, .int .i64 p, .int .i64 x, .int .i64 m] W fun e w' => (∃ t, e = .returned (.int .i64 t) ∧ WnP p (cn x) m l (rightE l) t) ∧ Below W.heap.size W w') := fun W h => when9_any a ca l p x m W (HA.out W h) hn hm
  have HU1 : Hid (∀ k k', NxP p (cn x) l (rightE l) k → NxP p (cn x) l (rightE l) k' → k' = k) := fun k k' h h' => NxP.uniq h' h
  have HU2 : Hid (∀ k k', WnP p (cn x) m l (rightE l) k → WnP p (cn x) m l (rightE l) k' → k' = k) := fun k k' h h' => WnP.uniq (cn_bnd x).1 h' h
  clear ha hb HA HB
  generalize (if rightE l = 0 ∧ cn x < cn y then tot p (cn x) (cn y) l else 0) = T at *
  generalize (if rightE l = 0 then rt p (cn x) l else 0) = R at *
  generalize rightE l = E at *
  generalize l.length = n at *
  go_enter Try.func6, Try.ntmps6
  go_wp2_with fail
  refine C1.mono ?_
  rintro e y1 ⟨rfl, k1⟩
  have D1 : Hid (Below w.heap.size w y1) := k1
  clear k1 C1
  go_wp2_with fail
  refine (C2.out _ D1.out).mono ?_
  rintro e y2 ⟨rfl, k2⟩
  have D2 : Hid (Below w.heap.size w y2) := D1.out.trans (k2.mono D1.out.size)
  clear k2 C2 D1
  go_wp2_with fail
  refine (C3.out _ D2.out).mono ?_
  rintro e y3 ⟨⟨n1, rfl, hn1⟩, k3⟩
  have D3 : Hid (Below w.heap.size w y3) := D2.out.trans (k3.mono D2.out.size)
  have HN1 : Hid (NxP p (cn x) l E n1) := hn1
  clear k3 C3 D2 hn1
  go_wp2_with fail
  refine (C4.out _ D3.out).mono ?_
  rintro e y4 ⟨rfl, k4⟩
  have D4 : Hid (Below w.heap.size w y4) := D3.out.trans (k4.mono D3.out.size)
  clear k4 C4 D3
  go_wp2_with fail
  refine (C5.out _ D4.out).mono ?_
  rintro e y5 ⟨⟨t1, rfl, ht1⟩, k5⟩
  have D5 : Hid (Below w.heap.size w y5) := D4.out.trans (k5.mono D4.out.size)
  have HT1 : Hid (WnP p (cn x) m l E t1) := ht1
  clear k5 C5 D4 ht1
  go_wp2_with fail
  refine (C6.out _ D5.out).mono ?_
  rintro e y6 ⟨rfl, k6⟩
  have D6 : Hid (Below w.heap.size w y6) := D5.out.trans (k6.mono D5.out.size)
  clear k6 C6 D5
  go_wp2_with fail
  refine (C7.out _ D6.out).mono ?_
  rintro e y7 ⟨rfl, k7⟩
  have D7 : Hid (Below w.heap.size w y7) := D6.out.trans (k7.mono D6.out.size)
  clear k7 C7 D6
  go_wp2_with fail
  refine (C8.out _ D7.out).mono ?_
  rintro e y8 ⟨⟨n2, rfl, hn2⟩, k8⟩
  have D8 : Hid (Below w.heap.size w y8) := D7.out.trans (k8.mono D7.out.size)
  obtain rfl := HU1.out _ _ HN1.out hn2
  clear k8 C8 D7 hn2 HN1
  go_wp2_with fail
  refine (C9.out _ D8.out).mono ?_
  rintro e y9 ⟨rfl, k9⟩
  have D9 : Hid (Below w.heap.size w y9) := D8.out.trans (k9.mono D8.out.size)
  clear k9 C9 D8
  go_wp2_with fail
  refine (C10.out _ D9.out).mono ?_
  rintro e y10 ⟨⟨t2, rfl, ht2⟩, k10⟩
  have D10 : Hid (Below w.heap.size w y10) := D9.out.trans (k10.mono D9.out.size)
  obtain rfl := HU2.out _ _ HT1.out ht2
  clear k10 C10 D9 ht2 HT1
  go_wp2
  go_ret
  exact ⟨by simp, D10.out⟩

set_option maxHeartbeats 2000000 in
/-- The same contacts in two places are the same. -/
theorem same9_eq (a b : Option Addr) (ca cb : Nat) (l : List Ct) (w : World) (ha : Cta w a l) (hb : Cta w b l) (hn : l.length ≤ 9223372036854775807) :
    Calls Try.prog 7 #[.slice a l.length ca, .slice b l.length cb] w fun e w' => e = .returned (.bool true) ∧ Below w.heap.size w w' := by
  have HA : Hid (Cta w a l) := ha
  have HB : Hid (Cta w b l) := hb
  clear ha hb
  go_enter Try.func7, Try.ntmps7
  go_wp2_with fail
  go_loopw [5] (fun x wr => ∃ i : Nat, i ≤ l.length ∧ x = .int .i64 i ∧ Below w.heap.size w wr) (fun x _ => l.length - (intOf x).toNat)
  case atStart => exact ⟨0, by omega, rfl, Below.refl _ _⟩
  case round =>
    obtain ⟨i, hil, rfl, hbe⟩ := hrel
    have HBe : Hid (Below w.heap.size w wr) := hbe
    clear hbe
    by_cases hi : i < l.length
    · have hi' : (i : Int) < (l.length : Int) := by omega
      obtain ⟨c, hc⟩ := pl_get l i hi
      obtain ⟨g, off, rfl, q0, q1, q2, q3⟩ := (HA.out.below HBe.out).at hc
      obtain ⟨g', off', rfl, r0, r1, r2, r3⟩ := (HB.out.below HBe.out).at hc
      clear hc
      obtain ⟨p0, p1, p2, p3⟩ := c
      simp only at q0 q1 q2 q3 r0 r1 r2 r3
      go_wp2_with fail
      go_quiet (fail)
      go_wp2
      go_roundw
      case rel => exact ⟨i + 1, by omega, by go_num, pl_drew HBe.out _⟩
      case measure => simp [intOf]; omega
    · have hi' : ¬ (i : Int) < (l.length : Int) := by omega
      go_wp2
      go_ret
      exact ⟨rfl, HBe.out⟩

end Go.Proofs.Ytjolflpmeodnaah
