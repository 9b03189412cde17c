import Derived.Test.YtppkdkbdcdjikacGat
import Derived.Laws.CopyOwn
namespace Go.Proofs.Ytppkdkbdcdjikac
open Go.RowKit

/-- One span is written over another. -/
theorem spc_put : ∀ (L : List Sp) (k : Nat) (a b : Int), ((L.flatMap spc).set (k * 2) (.int .i64 a)).set (k * 2 + 1) (.int .i64 b) = (L.set k (a, b)).flatMap spc
  | [], k, a, b => by simp
  | s :: r, 0, a, b => by simp [spc]
  | s :: r, k + 1, a, b => by
    have := spc_put r k a b
    rw [List.flatMap_cons, List.set_cons_succ, List.flatMap_cons, ← this]
    rw [List.set_append_right _ _ (by simp [spc]; omega), List.set_append_right _ _ (by simp [spc]; omega)]
    congr 1
    simp only [spc, List.length_cons, List.length_nil]
    rw [show (k + 1) * 2 - (0 + 1 + 1) = k * 2 from by omega, show (k + 1) * 2 + 1 - (0 + 1 + 1) = k * 2 + 1 from by omega]

theorem SOwn.put {W : World} {base g cap n k : Nat} {L : List Sp} (h : SOwn W base (.slice (some ⟨g, 0, none⟩) n cap) L) (a b : Int) : SOwn ((W.setCell ⟨g, k * 2, none⟩ (.int .i64 a)).setCell ⟨g, k * 2 + 1, none⟩ (.int .i64 b)) base (.slice (some ⟨g, 0, none⟩) n cap) (L.set k (a, b)) := by
  have hn : n = L.length := by
    obtain ⟨a', c', hv⟩ := h.shape
    simp only [Value.slice.injEq] at hv; exact hv.2.1
  subst hn
  have h1 := (World.ownsRow.stored h (k * 2) (.int .i64 a)).1
  have h2 := (World.ownsRow.stored h1 (k * 2 + 1) (.int .i64 b)).1
  rw [spc_put] at h2
  unfold SOwn
  rw [List.length_set]
  exact h2
theorem grown_put (W : World) (g k : Nat) (a b : Value) : W.grownBy ((W.setCell ⟨g, k * 2, none⟩ a).setCell ⟨g, k * 2 + 1, none⟩ b) (some g) := grown_trans (grown_set _ _ _ _) (grown_set _ _ _ _)
theorem SOwn.lenEq {W : World} {base n cap : Nat} {a : Option Addr} {L : List Sp} (h : SOwn W base (.slice a n cap) L) : L.length = n := by
  obtain ⟨a', c', hv⟩ := h.shape
  simp only [Value.slice.injEq] at hv; exact hv.2.1.symm
/-- Its cells, where it has a place k. -/
theorem SOwn.cells {W : World} {base g cap n k : Nat} {L : List Sp} {p : Sp} (h : SOwn W base (.slice (some ⟨g, 0, none⟩) n cap) L) (hk : L[k]? = some p) : W.cell? ⟨g, k * 2, none⟩ = some (.int .i64 p.1) ∧ W.cell? ⟨g, k * 2 + 1, none⟩ = some (.int .i64 p.2) ∧ W.frozen? ⟨g, k * 2, none⟩ = false ∧ W.frozen? ⟨g, k * 2 + 1, none⟩ = false := by
  have hn := h.lenEq
  subst hn
  have hkl : k < L.length := (List.getElem?_eq_some_iff.mp hk).1
  obtain ⟨q1, q2⟩ := spc_get L k p hk
  exact ⟨(World.ownsRow.cellAt h _ (by omega)).trans q1, (World.ownsRow.cellAt h _ (by omega)).trans q2, World.ownsRow.frozenAt h _, World.ownsRow.frozenAt h _⟩

theorem made_spans (n : Nat) : (madeCells (Value.cells (.agg #[.int .i64 0, .int .i64 0])) (n * 2)).toList = (List.replicate n ((0 : Int), (0 : Int))).flatMap spc := by
  apply List.ext_getElem?
  intro j
  by_cases hj : j < n * 2
  · have hr : (List.replicate n ((0 : Int), (0 : Int)))[j / 2]? = some (0, 0) := by rw [List.getElem?_replicate, if_pos (by omega)]
    obtain ⟨q1, q2⟩ := spc_get _ _ _ hr
    have e0 : (madeCells (Value.cells (.agg #[.int .i64 0, .int .i64 0])) (n * 2)).toList[j]? = some (.int .i64 0) := by
      simp only [madeCells, Value.cells]
      rcases Nat.mod_two_eq_zero_or_one j with h | h <;> simp [hj, h]
    rw [e0]
    rcases Nat.mod_two_eq_zero_or_one j with h | h
    · rw [show j / 2 * 2 = j from by omega] at q1; exact q1.symm
    · rw [show j / 2 * 2 + 1 = j from by omega] at q2; exact q2.symm
  · rw [List.getElem?_eq_none (by simp [madeCells]; omega), List.getElem?_eq_none (by rw [spc_len]; simp; omega)]

def mkd (l : List Sp) : List Sp := l ++ [(-77, -77), (-77, -77)]
theorem mkd_len (l : List Sp) : (mkd l).length = l.length + 2 := by simp [mkd]

theorem fill_set (A B : List Sp) (k : Nat) (x : Sp) (hk : A[k]? = some x) (hl : A.length = B.length) : (A.take k ++ B.drop k).set k x = A.take (k + 1) ++ B.drop (k + 1) := by
  have h1 : k < A.length := (List.getElem?_eq_some_iff.mp hk).1
  have h2 : (A.take k).length = k := by simp; omega
  rw [List.set_append_right _ _ (by omega), h2, Nat.sub_self]
  obtain ⟨y, hy⟩ := get_some B k (by omega)
  rw [drop_get B k y hy, List.set_cons_zero, List.take_add_one, hk]
  simp
theorem fill_at (A B : List Sp) (k : Nat) (hk : k < A.length) (hl : A.length = B.length) : (A.take k ++ B.drop k)[k]? = B[k]? := by
  have h2 : (A.take k).length = k := by simp; omega
  rw [List.getElem?_append_right (by omega), h2, Nat.sub_self, List.getElem?_drop, Nat.add_zero]
theorem set_set' (L : List Sp) (k : Nat) (x y : Sp) : (L.set k x).set k y = L.set k y := by rw [List.set_set]

set_option maxHeartbeats 2000000 in
theorem lent_any {v : Value} {l : List Sp} {w : World} (h : Ls w v l) (hm : l.length ≤ 1048576) : Calls Try.prog 10 #[v] w fun e w' => e = .returned (.slice (some ⟨w.heap.size, 0, none⟩) (l.length + 2) (l.length + 2)) ∧ SOwn w' w.heap.size (.slice (some ⟨w.heap.size, 0, none⟩) (l.length + 2) (l.length + 2)) (mkd l) ∧ Below w.heap.size w w' := by
  obtain ⟨i0, hi, hz0, hz1, hz2⟩ := info_parts Try.info_span
  obtain ⟨a, c, rfl, hs, _⟩ := h.shape
  have HS : Hid (Spa w a l) := hs
  have HML : Hid ((mkd l).length = l.length + 2) := mkd_len l
  clear h hs
  go_enter Try.func10, Try.ntmps10
  go_wp2_with (at_make; refine wpList_make_full _ rfl _ _ 22 rfl w.heap.size 24 i0 (.agg #[.int .i64 0, .int .i64 0]) 2 Try.underlying22 hi hz0 hz1 .i64 .i64 _ _ (l.length + 2) rfl rfl (by simp) (by simp) (by rw [hz2]; omega) (by unfold maxLen; omega) (Nat.le_refl _) ?_; intro w1 hown1 hgrow1)
  have HB1 : Hid (Below w.heap.size w w1) := (Below.refl _ _).grown hgrow1 (Nat.le_refl _) (by intro j hj; cases hj)
  have HO1 : Hid (SOwn w1 w.heap.size (.slice (some ⟨w.heap.size, 0, none⟩) (l.length + 2) (l.length + 2)) (List.replicate (l.length + 2) (0, 0))) := by
    rw [made_spans] at hown1; unfold Hid SOwn; rw [List.length_replicate]; exact hown1
  clear hown1 hgrow1
  generalize hn : l.length + 2 = n at *
  have HN : Hid (l.length + 2 = n) := hn
  go_loopw [4] (fun i wr => ∃ k : Nat, k ≤ n ∧ i = .int .i64 k ∧ SOwn wr w.heap.size (.slice (some ⟨w.heap.size, 0, none⟩) n n) ((mkd l).take k ++ (List.replicate n (0, 0)).drop k) ∧ Below w.heap.size w wr) (fun i _ => n - (intOf i).toNat)
  case atStart => exact ⟨0, by omega, rfl, by simpa using HO1.out, HB1.out⟩
  case round =>
    obtain ⟨k, hk, rfl, hso, hbe⟩ := hrel
    have HSo : Hid (SOwn wr w.heap.size (.slice (some ⟨w.heap.size, 0, none⟩) n n) ((mkd l).take k ++ (List.replicate n (0, 0)).drop k)) := hso
    have HBe : Hid (Below w.heap.size w wr) := hbe
    clear hso hbe HO1 HB1
    by_cases hlt : k < n
    · have hlt' : (k : Int) < (n : Int) := by omega
      have hk1 : k < (mkd l).length := by rw [HML.out]; exact hlt
      have hat : ((mkd l).take k ++ (List.replicate n ((0 : Int), (0 : Int))).drop k)[k]? = some (0, 0) := by
        rw [fill_at _ _ k hk1 (by rw [HML.out]; simp), List.getElem?_replicate, if_pos hlt]
      obtain ⟨q1, q2, q3, q4⟩ := HSo.out.cells hat
      simp only at q1 q2
      have h77 := HSo.out.put (k := k) (-77) (-77)
      by_cases hl : k < l.length
      · have hl' : (k : Int) < (l.length : Int) := by omega
        obtain ⟨p, hp⟩ := get_some l k hl
        obtain ⟨p1, p2⟩ := p
        have hg := grown_put wr w.heap.size k (.int .i64 (-77)) (.int .i64 (-77))
        have hbe2 : Below w.heap.size w ((wr.setCell ⟨w.heap.size, k * 2, none⟩ (.int .i64 (-77))).setCell ⟨w.heap.size, k * 2 + 1, none⟩ (.int .i64 (-77))) := (HBe.out.setCell (p := ⟨w.heap.size, k * 2, none⟩) (Nat.le_refl _) _).setCell (p := ⟨w.heap.size, k * 2 + 1, none⟩) (Nat.le_refl _) _
        obtain ⟨g, off, rfl, r1, r2⟩ := (HS.out.below hbe2).at hp
        simp only at r1 r2
        have hat2 : (((mkd l).take k ++ (List.replicate n ((0 : Int), (0 : Int))).drop k).set k (-77, -77))[k]? = some (-77, -77) := by
          rw [List.getElem?_set_self]; exact (List.getElem?_eq_some_iff.mp hat).1
        obtain ⟨s1, s2, s3, s4⟩ := h77.cells hat2
        simp only at s1 s2
        have h2 := h77.put (k := k) p1 p2
        rw [set_set', fill_set (mkd l) _ k (p1, p2) (by unfold mkd; rw [List.getElem?_append_left hl]; exact hp) (by rw [HML.out]; simp)] at h2
        have HS2 : Hid (SOwn ((((wr.setCell ⟨w.heap.size, k * 2, none⟩ (.int .i64 (-77))).setCell ⟨w.heap.size, k * 2 + 1, none⟩ (.int .i64 (-77))).setCell ⟨w.heap.size, k * 2, none⟩ (.int .i64 p1)).setCell ⟨w.heap.size, k * 2 + 1, none⟩ (.int .i64 p2)) w.heap.size (.slice (some ⟨w.heap.size, 0, none⟩) n n) ((mkd l).take (k + 1) ++ (List.replicate n (0, 0)).drop (k + 1))) := h2
        have HB2 : Hid (Below w.heap.size w ((((wr.setCell ⟨w.heap.size, k * 2, none⟩ (.int .i64 (-77))).setCell ⟨w.heap.size, k * 2 + 1, none⟩ (.int .i64 (-77))).setCell ⟨w.heap.size, k * 2, none⟩ (.int .i64 p1)).setCell ⟨w.heap.size, k * 2 + 1, none⟩ (.int .i64 p2))) := (hbe2.setCell (p := ⟨w.heap.size, k * 2, none⟩) (Nat.le_refl _) _).setCell (p := ⟨w.heap.size, k * 2 + 1, none⟩) (Nat.le_refl _) _
        clear h2 h77 hbe2 hg HSo HBe hp hat hat2
        go_wp2
        go_roundw
        case rel => exact ⟨k + 1, by omega, by go_num, HS2.out, HB2.out⟩
        case measure => simp [intOf]; omega
      · have hl' : ¬ (k : Int) < (l.length : Int) := by omega
        rw [fill_set (mkd l) _ k (-77, -77) (by
          unfold mkd; rw [List.getElem?_append_right (by omega)]
          have : k - l.length = 0 ∨ k - l.length = 1 := by omega
          rcases this with h | h <;> rw [h] <;> rfl) (by rw [HML.out]; simp)] at h77
        have HS2 : Hid (SOwn ((wr.setCell ⟨w.heap.size, k * 2, none⟩ (.int .i64 (-77))).setCell ⟨w.heap.size, k * 2 + 1, none⟩ (.int .i64 (-77))) w.heap.size (.slice (some ⟨w.heap.size, 0, none⟩) n n) ((mkd l).take (k + 1) ++ (List.replicate n (0, 0)).drop (k + 1))) := h77
        have HB2 : Hid (Below w.heap.size w ((wr.setCell ⟨w.heap.size, k * 2, none⟩ (.int .i64 (-77))).setCell ⟨w.heap.size, k * 2 + 1, none⟩ (.int .i64 (-77)))) := (HBe.out.setCell (p := ⟨w.heap.size, k * 2, none⟩) (Nat.le_refl _) _).setCell (p := ⟨w.heap.size, k * 2 + 1, none⟩) (Nat.le_refl _) _
        clear h77 HSo HBe hat
        go_wp2
        go_roundw
        case rel => exact ⟨k + 1, by omega, by go_num, HS2.out, HB2.out⟩
        case measure => simp [intOf]; omega
    · have hkn : k = n := by omega
      subst hkn
      have HS2 : Hid (SOwn wr w.heap.size (.slice (some ⟨w.heap.size, 0, none⟩) k k) (mkd l)) := by
        have := HSo.out
        rw [List.take_of_length_le (by rw [HML.out]; omega), List.drop_eq_nil_of_le (by simp), List.append_nil] at this
        exact this
      clear HSo
      go_wp2
      go_ret
      exact ⟨by rw [HN.out]; rfl, by rw [HN.out]; exact HS2.out, HBe.out⟩

/-- Another set of as many spans. -/
def spd (n : Nat) : List Sp := (List.range n).map fun (i : Nat) => ((4 * (i : Int) + 1, 4 * (i : Int) + 3) : Sp)
theorem spd_len (n : Nat) : (spd n).length = n := by simp [spd]
theorem spd_at {n k : Nat} (h : k < n) : (spd n)[k]? = some (4 * (k : Int) + 1, 4 * (k : Int) + 3) := by simp [spd, h]

set_option maxHeartbeats 2000000 in
theorem spaced_big (g n c cap : Nat) (L : List Sp) (base N : Nat) (w : World) (h : SOwn w base (.slice (some ⟨g, 0, none⟩) N cap) L) (hn : n ≤ N) (hm : n ≤ 1048578) :
    Calls Try.prog 13 #[.slice (some ⟨g, 0, none⟩) n c] w fun e w' => (∃ v, e = .returned v) ∧ SOwn w' base (.slice (some ⟨g, 0, none⟩) N cap) (spd n ++ L.drop n) ∧ w.grownBy w' (some g) := by
  have HO : Hid (SOwn w base (.slice (some ⟨g, 0, none⟩) N cap) L) := h
  have HLe : Hid (L.length = N) := h.lenEq
  clear h
  go_enter Try.func13, Try.ntmps13
  go_wp2_with fail
  go_loopw [2] (fun i wr => ∃ k : Nat, k ≤ n ∧ i = .int .i64 k ∧ SOwn wr base (.slice (some ⟨g, 0, none⟩) N cap) ((spd n ++ L.drop n).take k ++ L.drop k) ∧ w.grownBy wr (some g)) (fun i _ => n - (intOf i).toNat)
  case atStart => exact ⟨0, by omega, rfl, by simpa using HO.out, World.grownBy.refl _ _⟩
  case round =>
    obtain ⟨k, hk, rfl, hso, hgr⟩ := hrel
    have HSo : Hid (SOwn wr base (.slice (some ⟨g, 0, none⟩) N cap) ((spd n ++ L.drop n).take k ++ L.drop k)) := hso
    have HG : Hid (w.grownBy wr (some g)) := hgr
    clear hso hgr HO
    have hlen : (spd n ++ L.drop n).length = L.length := by rw [List.length_append, spd_len, List.length_drop, HLe.out]; omega
    by_cases hlt : k < n
    · have hlt' : (k : Int) < (n : Int) := by omega
      obtain ⟨y, hy⟩ := get_some L k (by rw [HLe.out]; omega)
      have hat : ((spd n ++ L.drop n).take k ++ L.drop k)[k]? = some y := by rw [fill_at _ _ k (by rw [hlen, HLe.out]; omega) hlen]; exact hy
      obtain ⟨q1, q2, q3, q4⟩ := HSo.out.cells hat
      have h2 := HSo.out.put (k := k) (4 * (k : Int) + 1) (4 * (k : Int) + 3)
      rw [fill_set _ _ k (4 * (k : Int) + 1, 4 * (k : Int) + 3) (by rw [List.getElem?_append_left (by rw [spd_len]; exact hlt)]; exact spd_at hlt) hlen] at h2
      have HS2 : Hid (SOwn ((wr.setCell ⟨g, k * 2, none⟩ (.int .i64 (4 * (k : Int) + 1))).setCell ⟨g, k * 2 + 1, none⟩ (.int .i64 (4 * (k : Int) + 3))) base (.slice (some ⟨g, 0, none⟩) N cap) ((spd n ++ L.drop n).take (k + 1) ++ L.drop (k + 1))) := h2
      have HG2 : Hid (w.grownBy ((wr.setCell ⟨g, k * 2, none⟩ (.int .i64 (4 * (k : Int) + 1))).setCell ⟨g, k * 2 + 1, none⟩ (.int .i64 (4 * (k : Int) + 3))) (some g)) := grown_trans HG.out (grown_put _ _ _ _ _)
      clear h2 hat hy HSo HG hlen
      go_wp2
      go_roundw
      case rel => exact ⟨k + 1, by omega, by go_num, HS2.out, HG2.out⟩
      case measure => simp [intOf]; omega
    · have hkn : k = n := by omega
      subst hkn
      have HS2 : Hid (SOwn wr base (.slice (some ⟨g, 0, none⟩) N cap) (spd k ++ L.drop k)) := by
        have := HSo.out
        rw [List.take_left' (spd_len k)] at this
        exact this
      clear HSo
      go_wp2
      go_end0
      exact ⟨⟨_, rfl⟩, HS2.out, HG.out⟩
theorem spaced_any (g n c cap : Nat) (L : List Sp) (base N : Nat) (w : World) (h : SOwn w base (.slice (some ⟨g, 0, none⟩) N cap) L) (hn : n ≤ N) (hm : n ≤ 1048576) :
    Calls Try.prog 13 #[.slice (some ⟨g, 0, none⟩) n c] w fun e w' => (∃ v, e = .returned v) ∧ SOwn w' base (.slice (some ⟨g, 0, none⟩) N cap) (spd n ++ L.drop n) ∧ w.grownBy w' (some g) := spaced_big g n c cap L base N w h hn (by omega)

end Go.Proofs.Ytppkdkbdcdjikac

namespace Go.Proofs.Ytppkdkbdcdjikac
open Go.RowKit

/-- copy of elements of two cells. -/
theorem run_copy_two {P : Program} (w : World) (dT sT ty elem : TypeId) (g dLen dCap : Nat) (a : Addr) (sLen sCap n : Nat) (cur : Array Value) (t : TypeId) (cs : List Value)
    (hu : P.underlying dT = some (.slice elem)) (hs : (P.info? elem).map (·.size) = some 2)
    (hg : w.heap[g]? = some (.cells cur t (0, 0))) (hn : n = Nat.min sLen dLen) (hc : cs.length = n * 2)
    (hsrc : ∀ j v, cs[j]? = some v → w.cell? (a.add j) = some v) (hfit : cs.length ≤ cur.size) (h1 : ∀ v ∈ cs, v.oneCell' = true) :
    (Builtin.copy_ #[dT, sT] ty #[.slice (some ⟨g, 0, none⟩) dLen dCap, .slice (some a) sLen sCap]).run P w =
      .ok (goInt n) (w.setRow g (cs ++ cur.toList.drop cs.length).toArray) := by
  have hl := run_loadCells_list (P := P) w a cs hsrc
  have hst := run_storeCells_at P g 0 t cs 0 cur w hg (by simpa using hfit) h1
  cases hq : P.info? elem with
  | none => simp [hq] at hs
  | some i =>
    have hi : i.size = 2 := by simpa [hq] using hs
    simp [Builtin.copy_, run_underlying hu, Builtin.lenOf, Builtin.firstCells, sizeOf, typeInfo, hq, hi, ← hn, ← hc, hl, hst]
theorem run_copy_zero {P : Program} (w : World) (dT sT ty elem : TypeId) (d : Addr) (dLen dCap : Nat) (s : Option Addr) (sCap : Nat)
    (hu : P.underlying dT = some (.slice elem)) (hs : (P.info? elem).map (·.size) = some 2) :
    (Builtin.copy_ #[dT, sT] ty #[.slice (some d) dLen dCap, .slice s 0 sCap]).run P w = .ok (goInt 0) w := by
  have hl := fun a : Addr => run_loadCells_list (P := P) w a [] (fun j v h => by simp at h)
  cases hq : P.info? elem with
  | none => simp [hq] at hs
  | some i =>
    cases s with
    | none => simp [Builtin.copy_, run_underlying hu, Builtin.lenOf, Builtin.firstCells, sizeOf, typeInfo, hq, storeCells]
    | some a =>
      have := hl a
      simp only [List.length_nil] at this
      simp [Builtin.copy_, run_underlying hu, Builtin.lenOf, Builtin.firstCells, sizeOf, typeInfo, hq, this, storeCells]

theorem spa_cells {W : World} {a : Addr} {l : List Sp} (h : Spa W (some a) l) (hne : l ≠ []) : ∀ j v, (l.flatMap spc)[j]? = some v → W.cell? (a.add j) = some v := by
  rcases h with h | ⟨g, off, ha, hc⟩
  · exact absurd h hne
  · simp only [Option.some.injEq] at ha
    subst ha
    intro j v hj
    have hjl : j < (l.flatMap spc).length := (List.getElem?_eq_some_iff.mp hj).1
    rw [spc_len] at hjl
    obtain ⟨p, hp⟩ := get_some l (j / 2) (by omega)
    obtain ⟨q1, q2⟩ := spc_get l _ p hp
    obtain ⟨r1, r2⟩ := hc _ p hp
    have e : (⟨g, off, none⟩ : Addr).add j = ⟨g, off + j, none⟩ := by unfold Addr.add; split <;> simp_all
    rw [e]
    rcases Nat.mod_two_eq_zero_or_one j with h0 | h0
    · rw [show j / 2 * 2 = j by omega] at q1 r1
      rw [hj] at q1
      rw [r1, ← q1]
    · rw [show j / 2 * 2 + 1 = j by omega] at q2
      rw [show off + j / 2 * 2 + 1 = off + j by omega] at r2
      rw [hj] at q2
      rw [r2, ← q2]
theorem spc_one (l : List Sp) : ∀ u ∈ l.flatMap spc, u.oneCell' = true := by
  intro u hu
  obtain ⟨x, _, hx⟩ := List.mem_flatMap.mp hu
  simp only [spc, List.mem_cons, List.not_mem_nil, or_false] at hx
  rcases hx with rfl | rfl <;> rfl

/-- copy(dst, src) of spans: src's lie at dst's head. -/
theorem wpList_copy_spans {P : Program} {w : World} {ops : Array Oper} {rest : List Oper} {o : Oper} {act : Act} {Q : Exit → Act → World → Prop} (hgd : o.guard = none) (d s : Operand) (dT sT : TypeId)
    (ho : o.op = .call { callee := .builtin .copy, args := #[d, s], argTypes := #[dT, sT] }) (hu : P.underlying dT = some (.slice 24)) (hsz : (P.info? 24).map (·.size) = some 2)
    (g N cap base : Nat) (L0 l : List Sp) (v : Value) (hd : act.eval d = .slice (some ⟨g, 0, none⟩) N cap) (hs : act.eval s = v)
    (hown : SOwn w base (.slice (some ⟨g, 0, none⟩) N cap) L0) (hls : Ls w v l) (hl : l.length ≤ N)
    (h : ∀ w', SOwn w' base (.slice (some ⟨g, 0, none⟩) N cap) (l ++ L0.drop l.length) → w.grownBy w' (some g) → wpList P ops Q rest (act.put o.dst (goInt l.length)) w') :
    wpList P ops Q (o :: rest) act w := by
  obtain ⟨a, c, rfl, hspa, _⟩ := hls.shape
  have hN := hown.lenEq
  refine wpList_plain hgd fun K hK => ?_
  by_cases hne : l = []
  · subst hne
    have hrun := run_copy_zero (P := P) w dT sT o.type _ ⟨g, 0, none⟩ N cap a c hu hsz
    unfold Oper.wp
    simp [execOp, ho, resolve, invoke, builtin, hd, hs, hrun, Result.andThen]
    exact hK _ _ (h w (by simpa using hown) (World.grownBy.refl _ _))
  · have ha : ∃ ad, a = some ad := by
      rcases hspa with h0 | ⟨g', off', h0, _⟩
      · exact absurd h0 hne
      · exact ⟨_, h0⟩
    obtain ⟨ad, rfl⟩ := ha
    obtain ⟨hx, ⟨hv, _⟩ | ⟨g0, cap0, cur, hv, hb0, hg0, hn0, hm0, hc0, ht0⟩⟩ := id hown
    · cases hv
    simp only [Value.slice.injEq, Option.some.injEq, Addr.mk.injEq, and_true] at hv
    obtain ⟨rfl, hN', rfl⟩ := hv
    rw [hN] at hn0 ht0
    have hln : (l.flatMap spc).length = l.length * 2 := spc_len l
    have hrun := run_copy_two (P := P) w dT sT o.type 24 g N cap ad l.length c l.length cur 24 (l.flatMap spc) hu hsz hg0 (by simp [Nat.min_def]; omega) hln (spa_cells hspa hne) (by rw [hln]; omega) (spc_one l)
    generalize hX : l.flatMap spc = X at hrun hln
    unfold Oper.wp
    simp [execOp, ho, resolve, invoke, builtin, hd, hs, hrun, Result.andThen]
    refine hK _ _ (h _ ?_ ?_)
    · refine ⟨by rw [spc_len], .inr ⟨g, cap, _, ?_, hb0, setRow_heap w g _ _ _ _ hg0, ?_, hm0, ?_, ?_⟩⟩
      · congr 1; simp; omega
      · simp; omega
      · simp only [List.size_toArray, List.length_append, List.length_drop, Array.length_toList]
        omega
      · have e1 : (l ++ L0.drop l.length).length = N := by simp; omega
        rw [e1, List.flatMap_append, hX]
        have e2 : (L0.drop l.length).flatMap spc = (L0.flatMap spc).drop (l.length * 2) := by
          have : L0.flatMap spc = (L0.take l.length).flatMap spc ++ (L0.drop l.length).flatMap spc := by rw [← List.flatMap_append, List.take_append_drop]
          rw [this, List.drop_left' (by rw [spc_len]; simp; omega)]
        rw [e2, ← ht0, ← hln]
        rw [List.take_append, List.take_of_length_le (by rw [hln]; omega), List.drop_take]
    · refine ⟨rfl, rfl, rfl, by simp [World.setRow], fun j hj hne' => ?_⟩
      simp only [World.setRow]
      rw [Array.getElem?_modify, if_neg (fun e => hne' (by rw [e]))]

end Go.Proofs.Ytppkdkbdcdjikac
