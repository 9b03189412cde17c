import Derived.Test.YtlagadpfnkidjacGap
namespace Go.Proofs.Ytlagadpfnkidjac
open Go.RowKit

/-- One span is written over another. -/
theorem spc_put : ∀ (L : List Sp) (k : Nat) (a b : Int), ((L.flatMap spc).set (k * 2) (.int .i64 a)).set (k * 2 + 1) (.int .i64 b) = (L.set k (a, b)).flatMap spc
  | [], k, a, b => by simp
  | s :: r, 0, a, b => by simp [spc]
  | s :: r, k + 1, a, b => by
    have := spc_put r k a b
    rw [List.flatMap_cons, List.set_cons_succ, List.flatMap_cons, ← this]
    rw [List.set_append_right _ _ (by simp [spc]; omega), List.set_append_right _ _ (by simp [spc]; omega)]
    congr 1
    simp only [spc, List.length_cons, List.length_nil]
    rw [show (k + 1) * 2 - (0 + 1 + 1) = k * 2 from by omega, show (k + 1) * 2 + 1 - (0 + 1 + 1) = k * 2 + 1 from by omega]

theorem SOwn.put {W : World} {base g cap n k : Nat} {L : List Sp} (h : SOwn W base (.slice (some ⟨g, 0, none⟩) n cap) L) (a b : Int) : SOwn ((W.setCell ⟨g, k * 2, none⟩ (.int .i64 a)).setCell ⟨g, k * 2 + 1, none⟩ (.int .i64 b)) base (.slice (some ⟨g, 0, none⟩) n cap) (L.set k (a, b)) := by
  have hn : n = L.length := by
    obtain ⟨a', c', hv⟩ := h.shape
    simp only [Value.slice.injEq] at hv; exact hv.2.1
  subst hn
  have h1 := (World.ownsRow.stored h (k * 2) (.int .i64 a)).1
  have h2 := (World.ownsRow.stored h1 (k * 2 + 1) (.int .i64 b)).1
  rw [spc_put] at h2
  unfold SOwn
  rw [List.length_set]
  exact h2
theorem grown_put (W : World) (g k : Nat) (a b : Value) : W.grownBy ((W.setCell ⟨g, k * 2, none⟩ a).setCell ⟨g, k * 2 + 1, none⟩ b) (some g) := grown_trans (grown_set _ _ _ _) (grown_set _ _ _ _)
theorem SOwn.lenEq {W : World} {base n cap : Nat} {a : Option Addr} {L : List Sp} (h : SOwn W base (.slice a n cap) L) : L.length = n := by
  obtain ⟨a', c', hv⟩ := h.shape
  simp only [Value.slice.injEq] at hv; exact hv.2.1.symm
/-- Its cells, where it has a place k. -/
theorem SOwn.cells {W : World} {base g cap n k : Nat} {L : List Sp} {p : Sp} (h : SOwn W base (.slice (some ⟨g, 0, none⟩) n cap) L) (hk : L[k]? = some p) : W.cell? ⟨g, k * 2, none⟩ = some (.int .i64 p.1) ∧ W.cell? ⟨g, k * 2 + 1, none⟩ = some (.int .i64 p.2) ∧ W.frozen? ⟨g, k * 2, none⟩ = false ∧ W.frozen? ⟨g, k * 2 + 1, none⟩ = false := by
  have hn := h.lenEq
  subst hn
  have hkl : k < L.length := (List.getElem?_eq_some_iff.mp hk).1
  obtain ⟨q1, q2⟩ := spc_get L k p hk
  exact ⟨(World.ownsRow.cellAt h _ (by omega)).trans q1, (World.ownsRow.cellAt h _ (by omega)).trans q2, World.ownsRow.frozenAt h _, World.ownsRow.frozenAt h _⟩

theorem made_spans (n : Nat) : (madeCells (Value.cells (.agg #[.int .i64 0, .int .i64 0])) (n * 2)).toList = (List.replicate n ((0 : Int), (0 : Int))).flatMap spc := by
  apply List.ext_getElem?
  intro j
  by_cases hj : j < n * 2
  · have hr : (List.replicate n ((0 : Int), (0 : Int)))[j / 2]? = some (0, 0) := by rw [List.getElem?_replicate, if_pos (by omega)]
    obtain ⟨q1, q2⟩ := spc_get _ _ _ hr
    have e0 : (madeCells (Value.cells (.agg #[.int .i64 0, .int .i64 0])) (n * 2)).toList[j]? = some (.int .i64 0) := by
      simp only [madeCells, Value.cells]
      rcases Nat.mod_two_eq_zero_or_one j with h | h <;> simp [hj, h]
    rw [e0]
    rcases Nat.mod_two_eq_zero_or_one j with h | h
    · rw [show j / 2 * 2 = j from by omega] at q1; exact q1.symm
    · rw [show j / 2 * 2 + 1 = j from by omega] at q2; exact q2.symm
  · rw [List.getElem?_eq_none (by simp [madeCells]; omega), List.getElem?_eq_none (by rw [spc_len]; simp; omega)]

def mkd (l : List Sp) : List Sp := l ++ [(-77, -77), (-77, -77)]
theorem mkd_len (l : List Sp) : (mkd l).length = l.length + 2 := by simp [mkd]

theorem fill_set (A B : List Sp) (k : Nat) (x : Sp) (hk : A[k]? = some x) (hl : A.length = B.length) : (A.take k ++ B.drop k).set k x = A.take (k + 1) ++ B.drop (k + 1) := by
  have h1 : k < A.length := (List.getElem?_eq_some_iff.mp hk).1
  have h2 : (A.take k).length = k := by simp; omega
  rw [List.set_append_right _ _ (by omega), h2, Nat.sub_self]
  obtain ⟨y, hy⟩ := get_some B k (by omega)
  rw [drop_get B k y hy, List.set_cons_zero, List.take_add_one, hk]
  simp
theorem fill_at (A B : List Sp) (k : Nat) (hk : k < A.length) (hl : A.length = B.length) : (A.take k ++ B.drop k)[k]? = B[k]? := by
  have h2 : (A.take k).length = k := by simp; omega
  rw [List.getElem?_append_right (by omega), h2, Nat.sub_self, List.getElem?_drop, Nat.add_zero]
theorem set_set' (L : List Sp) (k : Nat) (x y : Sp) : (L.set k x).set k y = L.set k y := by rw [List.set_set]

set_option maxHeartbeats 2000000 in
theorem lent_any {v : Value} {l : List Sp} {w : World} (h : Ls w v l) (hm : l.length ≤ 1048576) : Calls Try.prog 10 #[v] w fun e w' => e = .returned (.slice (some ⟨w.heap.size, 0, none⟩) (l.length + 2) (l.length + 2)) ∧ SOwn w' w.heap.size (.slice (some ⟨w.heap.size, 0, none⟩) (l.length + 2) (l.length + 2)) (mkd l) ∧ Below w.heap.size w w' := by
  obtain ⟨i0, hi, hz0, hz1, hz2⟩ := info_parts Try.info_span
  obtain ⟨a, c, rfl, hs, _⟩ := h.shape
  have HS : Hid (Spa w a l) := hs
  have HML : Hid ((mkd l).length = l.length + 2) := mkd_len l
  clear h hs
  go_enter Try.func10, Try.ntmps10
  go_wp2_with (at_make; refine wpList_make_full _ rfl _ _ 22 rfl w.heap.size 24 i0 (.agg #[.int .i64 0, .int .i64 0]) 2 Try.underlying22 hi hz0 hz1 .i64 .i64 _ _ (l.length + 2) rfl rfl (by simp) (by simp) (by rw [hz2]; omega) (by unfold maxLen; omega) (Nat.le_refl _) ?_; intro w1 hown1 hgrow1)
  have HB1 : Hid (Below w.heap.size w w1) := (Below.refl _ _).grown hgrow1 (Nat.le_refl _) (by intro j hj; cases hj)
  have HO1 : Hid (SOwn w1 w.heap.size (.slice (some ⟨w.heap.size, 0, none⟩) (l.length + 2) (l.length + 2)) (List.replicate (l.length + 2) (0, 0))) := by
    rw [made_spans] at hown1; unfold Hid SOwn; rw [List.length_replicate]; exact hown1
  clear hown1 hgrow1
  generalize hn : l.length + 2 = n at *
  have HN : Hid (l.length + 2 = n) := hn
  go_loopw [4] (fun i wr => ∃ k : Nat, k ≤ n ∧ i = .int .i64 k ∧ SOwn wr w.heap.size (.slice (some ⟨w.heap.size, 0, none⟩) n n) ((mkd l).take k ++ (List.replicate n (0, 0)).drop k) ∧ Below w.heap.size w wr) (fun i _ => n - (intOf i).toNat)
  case atStart => exact ⟨0, by omega, rfl, by simpa using HO1.out, HB1.out⟩
  case round =>
    obtain ⟨k, hk, rfl, hso, hbe⟩ := hrel
    have HSo : Hid (SOwn wr w.heap.size (.slice (some ⟨w.heap.size, 0, none⟩) n n) ((mkd l).take k ++ (List.replicate n (0, 0)).drop k)) := hso
    have HBe : Hid (Below w.heap.size w wr) := hbe
    clear hso hbe HO1 HB1
    by_cases hlt : k < n
    · have hlt' : (k : Int) < (n : Int) := by omega
      have hk1 : k < (mkd l).length := by rw [HML.out]; exact hlt
      have hat : ((mkd l).take k ++ (List.replicate n ((0 : Int), (0 : Int))).drop k)[k]? = some (0, 0) := by
        rw [fill_at _ _ k hk1 (by rw [HML.out]; simp), List.getElem?_replicate, if_pos hlt]
      obtain ⟨q1, q2, q3, q4⟩ := HSo.out.cells hat
      simp only at q1 q2
      have h77 := HSo.out.put (k := k) (-77) (-77)
      by_cases hl : k < l.length
      · have hl' : (k : Int) < (l.length : Int) := by omega
        obtain ⟨p, hp⟩ := get_some l k hl
        obtain ⟨p1, p2⟩ := p
        have hg := grown_put wr w.heap.size k (.int .i64 (-77)) (.int .i64 (-77))
        have hbe2 : Below w.heap.size w ((wr.setCell ⟨w.heap.size, k * 2, none⟩ (.int .i64 (-77))).setCell ⟨w.heap.size, k * 2 + 1, none⟩ (.int .i64 (-77))) := (HBe.out.setCell (p := ⟨w.heap.size, k * 2, none⟩) (Nat.le_refl _) _).setCell (p := ⟨w.heap.size, k * 2 + 1, none⟩) (Nat.le_refl _) _
        obtain ⟨g, off, rfl, r1, r2⟩ := (HS.out.below hbe2).at hp
        simp only at r1 r2
        have hat2 : (((mkd l).take k ++ (List.replicate n ((0 : Int), (0 : Int))).drop k).set k (-77, -77))[k]? = some (-77, -77) := by
          rw [List.getElem?_set_self]; exact (List.getElem?_eq_some_iff.mp hat).1
        obtain ⟨s1, s2, s3, s4⟩ := h77.cells hat2
        simp only at s1 s2
        have h2 := h77.put (k := k) p1 p2
        rw [set_set', fill_set (mkd l) _ k (p1, p2) (by unfold mkd; rw [List.getElem?_append_left hl]; exact hp) (by rw [HML.out]; simp)] at h2
        have HS2 : Hid (SOwn ((((wr.setCell ⟨w.heap.size, k * 2, none⟩ (.int .i64 (-77))).setCell ⟨w.heap.size, k * 2 + 1, none⟩ (.int .i64 (-77))).setCell ⟨w.heap.size, k * 2, none⟩ (.int .i64 p1)).setCell ⟨w.heap.size, k * 2 + 1, none⟩ (.int .i64 p2)) w.heap.size (.slice (some ⟨w.heap.size, 0, none⟩) n n) ((mkd l).take (k + 1) ++ (List.replicate n (0, 0)).drop (k + 1))) := h2
        have HB2 : Hid (Below w.heap.size w ((((wr.setCell ⟨w.heap.size, k * 2, none⟩ (.int .i64 (-77))).setCell ⟨w.heap.size, k * 2 + 1, none⟩ (.int .i64 (-77))).setCell ⟨w.heap.size, k * 2, none⟩ (.int .i64 p1)).setCell ⟨w.heap.size, k * 2 + 1, none⟩ (.int .i64 p2))) := (hbe2.setCell (p := ⟨w.heap.size, k * 2, none⟩) (Nat.le_refl _) _).setCell (p := ⟨w.heap.size, k * 2 + 1, none⟩) (Nat.le_refl _) _
        clear h2 h77 hbe2 hg HSo HBe hp hat hat2
        go_wp2
        go_roundw
        case rel => exact ⟨k + 1, by omega, by go_num, HS2.out, HB2.out⟩
        case measure => simp [intOf]; omega
      · have hl' : ¬ (k : Int) < (l.length : Int) := by omega
        rw [fill_set (mkd l) _ k (-77, -77) (by
          unfold mkd; rw [List.getElem?_append_right (by omega)]
          have : k - l.length = 0 ∨ k - l.length = 1 := by omega
          rcases this with h | h <;> rw [h] <;> rfl) (by rw [HML.out]; simp)] at h77
        have HS2 : Hid (SOwn ((wr.setCell ⟨w.heap.size, k * 2, none⟩ (.int .i64 (-77))).setCell ⟨w.heap.size, k * 2 + 1, none⟩ (.int .i64 (-77))) w.heap.size (.slice (some ⟨w.heap.size, 0, none⟩) n n) ((mkd l).take (k + 1) ++ (List.replicate n (0, 0)).drop (k + 1))) := h77
        have HB2 : Hid (Below w.heap.size w ((wr.setCell ⟨w.heap.size, k * 2, none⟩ (.int .i64 (-77))).setCell ⟨w.heap.size, k * 2 + 1, none⟩ (.int .i64 (-77)))) := (HBe.out.setCell (p := ⟨w.heap.size, k * 2, none⟩) (Nat.le_refl _) _).setCell (p := ⟨w.heap.size, k * 2 + 1, none⟩) (Nat.le_refl _) _
        clear h77 HSo HBe hat
        go_wp2
        go_roundw
        case rel => exact ⟨k + 1, by omega, by go_num, HS2.out, HB2.out⟩
        case measure => simp [intOf]; omega
    · have hkn : k = n := by omega
      subst hkn
      have HS2 : Hid (SOwn wr w.heap.size (.slice (some ⟨w.heap.size, 0, none⟩) k k) (mkd l)) := by
        have := HSo.out
        rw [List.take_of_length_le (by rw [HML.out]; omega), List.drop_eq_nil_of_le (by simp), List.append_nil] at this
        exact this
      clear HSo
      go_wp2
      go_ret
      exact ⟨by rw [HN.out]; rfl, by rw [HN.out]; exact HS2.out, HBe.out⟩

/-- Another set of as many spans. -/
def spd (n : Nat) : List Sp := (List.range n).map fun (i : Nat) => ((4 * (i : Int) + 1, 4 * (i : Int) + 3) : Sp)
theorem spd_len (n : Nat) : (spd n).length = n := by simp [spd]
theorem spd_at {n k : Nat} (h : k < n) : (spd n)[k]? = some (4 * (k : Int) + 1, 4 * (k : Int) + 3) := by simp [spd, h]

set_option maxHeartbeats 2000000 in
theorem spaced_any (g n c cap : Nat) (L : List Sp) (base N : Nat) (w : World) (h : SOwn w base (.slice (some ⟨g, 0, none⟩) N cap) L) (hn : n ≤ N) (hm : n ≤ 1048576) :
    Calls Try.prog 13 #[.slice (some ⟨g, 0, none⟩) n c] w fun e w' => (∃ v, e = .returned v) ∧ SOwn w' base (.slice (some ⟨g, 0, none⟩) N cap) (spd n ++ L.drop n) ∧ w.grownBy w' (some g) := by
  have HO : Hid (SOwn w base (.slice (some ⟨g, 0, none⟩) N cap) L) := h
  have HLe : Hid (L.length = N) := h.lenEq
  clear h
  go_enter Try.func13, Try.ntmps13
  go_wp2_with fail
  go_loopw [2] (fun i wr => ∃ k : Nat, k ≤ n ∧ i = .int .i64 k ∧ SOwn wr base (.slice (some ⟨g, 0, none⟩) N cap) ((spd n ++ L.drop n).take k ++ L.drop k) ∧ w.grownBy wr (some g)) (fun i _ => n - (intOf i).toNat)
  case atStart => exact ⟨0, by omega, rfl, by simpa using HO.out, World.grownBy.refl _ _⟩
  case round =>
    obtain ⟨k, hk, rfl, hso, hgr⟩ := hrel
    have HSo : Hid (SOwn wr base (.slice (some ⟨g, 0, none⟩) N cap) ((spd n ++ L.drop n).take k ++ L.drop k)) := hso
    have HG : Hid (w.grownBy wr (some g)) := hgr
    clear hso hgr HO
    have hlen : (spd n ++ L.drop n).length = L.length := by rw [List.length_append, spd_len, List.length_drop, HLe.out]; omega
    by_cases hlt : k < n
    · have hlt' : (k : Int) < (n : Int) := by omega
      obtain ⟨y, hy⟩ := get_some L k (by rw [HLe.out]; omega)
      have hat : ((spd n ++ L.drop n).take k ++ L.drop k)[k]? = some y := by rw [fill_at _ _ k (by rw [hlen, HLe.out]; omega) hlen]; exact hy
      obtain ⟨q1, q2, q3, q4⟩ := HSo.out.cells hat
      have h2 := HSo.out.put (k := k) (4 * (k : Int) + 1) (4 * (k : Int) + 3)
      rw [fill_set _ _ k (4 * (k : Int) + 1, 4 * (k : Int) + 3) (by rw [List.getElem?_append_left (by rw [spd_len]; exact hlt)]; exact spd_at hlt) hlen] at h2
      have HS2 : Hid (SOwn ((wr.setCell ⟨g, k * 2, none⟩ (.int .i64 (4 * (k : Int) + 1))).setCell ⟨g, k * 2 + 1, none⟩ (.int .i64 (4 * (k : Int) + 3))) base (.slice (some ⟨g, 0, none⟩) N cap) ((spd n ++ L.drop n).take (k + 1) ++ L.drop (k + 1))) := h2
      have HG2 : Hid (w.grownBy ((wr.setCell ⟨g, k * 2, none⟩ (.int .i64 (4 * (k : Int) + 1))).setCell ⟨g, k * 2 + 1, none⟩ (.int .i64 (4 * (k : Int) + 3))) (some g)) := grown_trans HG.out (grown_put _ _ _ _ _)
      clear h2 hat hy HSo HG hlen
      go_wp2
      go_roundw
      case rel => exact ⟨k + 1, by omega, by go_num, HS2.out, HG2.out⟩
      case measure => simp [intOf]; omega
    · have hkn : k = n := by omega
      subst hkn
      have HS2 : Hid (SOwn wr base (.slice (some ⟨g, 0, none⟩) N cap) (spd k ++ L.drop k)) := by
        have := HSo.out
        rw [List.take_left' (spd_len k)] at this
        exact this
      clear HSo
      go_wp2
      go_end0
      exact ⟨⟨_, rfl⟩, HS2.out, HG.out⟩

end Go.Proofs.Ytlagadpfnkidjac
