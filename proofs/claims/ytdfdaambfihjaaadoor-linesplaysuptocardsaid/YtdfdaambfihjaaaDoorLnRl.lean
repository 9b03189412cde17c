import Derived.Test.YtdfdaambfihjaaaDoorLnRc
import Derived.Test.YtdfdaambfihjaaaDoorLnPu
namespace Go.Proofs.YtdfdaambfihjaaaDoor.L
open Go.RowKit
set_option linter.unusedVariables false
set_option linter.unusedSimpArgs false

/-! ## The reference's lines: one list of what waits -/
structure Wa where
  p : Int
  y : Sv
def Wa.L (x : Wa) : List Value := .int .i64 x.p :: x.y.L
def wsg (l : List Wa) : List Value := l.flatMap Wa.L
theorem wsg_app (l m : List Wa) : wsg (l ++ m) = wsg l ++ wsg m := List.flatMap_append
theorem wsg_at : ∀ (l : List Wa) (i : Nat) (x : Wa), l[i]? = some x → ∀ j u, x.L[j]? = some u → (wsg l)[i * 15 + j]? = some u
  | [], i, x, h, j, u, hj => by simp at h
  | a :: r, 0, x, h, j, u, hj => by
    simp at h
    subst h
    have hl : j < a.L.length := (List.getElem?_eq_some_iff.mp hj).1
    show (a.L ++ wsg r)[0 * 15 + j]? = _
    rw [Nat.zero_mul, Nat.zero_add, List.getElem?_append_left hl]
    exact hj
  | a :: r, i + 1, x, h, j, u, hj => by
    simp at h
    have hl : a.L.length = 15 := rfl
    show (a.L ++ wsg r)[(i + 1) * 15 + j]? = _
    rw [List.getElem?_append_right (by omega), hl, show (i + 1) * 15 + j - 15 = i * 15 + j by omega]
    exact wsg_at r i x h j u hj
/-- The reference's lines in memory, in the block r. -/
structure Rl (w : World) (r : Nat) (lim : Int) (v : Value) (ws : List Wa) : Prop where
  box : w.heap[r]? = some (.cells #[.int .i64 lim, v] 66 (0, 0))
  row : w.ownsRow 0 77 15 v ws.length (wsg ws)
theorem Rl.below {w w' : World} {r : Nat} {lim : Int} {v : Value} {ws : List Wa} (h : Rl w r lim v ws) (hb : Below w.heap.size w w') : Rl w' r lim v ws :=
  ⟨(hb.block r (Array.getElem?_eq_some_iff.1 h.box).1).trans h.box, own_blk h.row (fun g hg => hb.block g (h.row.lt g hg).2)⟩
theorem Rl.cell {w : World} {r : Nat} {lim : Int} {v : Value} {ws : List Wa} (h : Rl w r lim v ws) {i : Nat} {x : Wa} (hi : ws[i]? = some x) : ∃ g c, v = .slice (some ⟨g, 0, none⟩) ws.length c ∧ ∀ j u, x.L[j]? = some u → w.cell? ⟨g, i * 15 + j, none⟩ = some u := by
  have hil := (List.getElem?_eq_some_iff.mp hi).1
  obtain ⟨_, ⟨e1, e2⟩ | ⟨g, cap, cur, e1, _⟩⟩ := id h.row
  · omega
  · refine ⟨g, cap, e1, fun j u hj => ?_⟩
    have hr := h.row
    rw [e1] at hr
    have := hr.cells (g := g) rfl (i * 15 + j) u (wsg_at ws i x hi j u hj)
    rwa [addr_add, Nat.zero_add] at this
theorem rnew_any (lim : Int) (w : World) : Calls Tryd.prog 7 #[.int .i64 lim] w fun e w' => e = .returned (.pointer (some ⟨w.heap.size, 0, none⟩)) ∧ Rl w' w.heap.size lim (.slice none 0 0) [] ∧ Below w.heap.size w w' := by
  have HR : Hid (Rl (w.alloc (.cells #[.int .i64 lim, .slice none 0 0] 66)) w.heap.size lim (.slice none 0 0) [] ∧ Below w.heap.size w (w.alloc (.cells #[.int .i64 lim, .slice none 0 0] 66))) := ⟨⟨heap_alloc_new' _ _, World.ownsRow_nil _ _ _ _⟩, (Below.refl _ _).alloc (Nat.le_refl _) _⟩
  go_enter Tryd.func7, Tryd.ntmps7
  go_wp2
  go_ret
  exact ⟨rfl, HR.out⟩
def wcn (K : Int) (ws : List Wa) : Nat := (ws.filter fun x => decide (x.p = K)).length
def wan (K : Int) (ws : List Wa) : Nat := (ws.filter fun x => decide (x.p = K) && decide (kdn x.y.s.typ = 0)).length
theorem wcn_step {K : Int} {ws : List Wa} {i : Nat} {x : Wa} (hx : ws[i]? = some x) : wcn K (ws.take (i + 1)) = wcn K (ws.take i) + (if x.p = K then 1 else 0) := by
  unfold wcn
  rw [List.take_add_one, hx, List.filter_append, List.length_append]
  by_cases e : x.p = K <;> simp [e]
theorem wan_step {K : Int} {ws : List Wa} {i : Nat} {x : Wa} (hx : ws[i]? = some x) : wan K (ws.take (i + 1)) = wan K (ws.take i) + (if x.p = K ∧ kdn x.y.s.typ = 0 then 1 else 0) := by
  unfold wan
  rw [List.take_add_one, hx, List.filter_append, List.length_append]
  by_cases e : x.p = K <;> by_cases e2 : kdn x.y.s.typ = 0 <;> simp [e, e2]
theorem wcn_le (K : Int) (ws : List Wa) : wcn K ws ≤ ws.length := List.length_filter_le _ _
theorem wan_le (K : Int) (ws : List Wa) : wan K ws ≤ ws.length := List.length_filter_le _ _

set_option maxRecDepth 100000 in
set_option maxHeartbeats 4000000 in
theorem rcount_any (w : World) (r : Nat) (lim K : Int) (v : Value) (ws : List Wa) (h : Rl w r lim v ws) (n : Nat) (hn : ws.length = n) (hnb : n ≤ 68719476736) :
    Calls Tryd.prog 15 #[.pointer (some ⟨r, 0, none⟩), .int .i64 K] w fun e w' => e = .returned (.int .i64 (wcn K ws : Nat)) ∧ Below w.heap.size w w' := by
  obtain ⟨va, vc, hv⟩ := own_sl h.row
  rw [hn] at hv
  have c1 : w.cell? ⟨r, 1, none⟩ = some (.slice va n vc) := by rw [← hv]; exact (cell_of_row _ _ _ _ _ _ h.box).trans rfl
  have HL : Hid (Rl w r lim v ws ∧ ws.length = n ∧ v = .slice va n vc) := ⟨h, hn, hv⟩
  have hend : (wcn K (ws.take n)) = wcn K ws := by rw [List.take_of_length_le (by omega)]
  have HEnd : Hid (wcn K (ws.take n) = wcn K ws) := hend
  clear h hn hv hend
  go_enter Tryd.func15, Tryd.ntmps15
  go_wp2_with fail
  go_loopw [5, 6] (fun s5 s6 wr => ∃ i c : Nat, i ≤ n ∧ s6 = .int .i64 i ∧ s5 = .int .i64 c ∧ c ≤ i ∧ Hid (wcn K (ws.take i) = c) ∧ w = wr) (fun _ s6 _ => n - (intOf s6).toNat)
  case atStart => exact ⟨0, 0, by omega, rfl, rfl, by omega, (show wcn K (ws.take 0) = 0 by simp [wcn]), rfl⟩
  case round =>
    obtain ⟨i, c, hi, rfl, rfl, hci, HC, hwr⟩ := hrel
    subst hwr
    by_cases hlt : i < n
    · have hlt' : (i : Int) < (n : Int) := by omega
      have h0i : 0 ≤ (i : Int) := by omega
      have hwi : IntKind.i64.wrap ((i : Int) + 1) = (i : Int) + 1 := by rw [IntKind.wrap_i64]; omega
      have hwc : IntKind.i64.wrap ((c : Int) + 1) = (c : Int) + 1 := by rw [IntKind.wrap_i64]; omega
      obtain ⟨x, hx⟩ := get_one ws i (by rw [HL.out.2.1]; exact hlt)
      obtain ⟨g, cc, e1, hcl⟩ := HL.out.1.cell hx
      rw [HL.out.2.2, HL.out.2.1] at e1
      simp only [Value.slice.injEq, true_and] at e1
      obtain ⟨rfl, rfl⟩ := e1
      have x0 := hcl 0 _ rfl
      rw [Nat.add_zero] at x0
      have HS : Hid (wcn K (ws.take (i + 1)) = c + (if x.p = K then 1 else 0)) := by show _ = _; rw [wcn_step hx, HC.out]
      clear hcl hx
      by_cases e : x.p = K
      · have HS2 : Hid (wcn K (ws.take (i + 1)) = c + 1) := by show _ = _; rw [HS.out, if_pos e]
        subst e
        go_wp2
        go_roundw
        case rel => exact ⟨i + 1, c + 1, by omega, by go_num, by go_num, by omega, HS2, trivial⟩
        case measure => simp [intOf]; omega
      · have eb : (x.p == K) = false := by simpa using e
        have HS2 : Hid (wcn K (ws.take (i + 1)) = c) := by show _ = _; rw [HS.out, if_neg e]; rfl
        go_wp2
        go_roundw
        case rel => exact ⟨i + 1, c, by omega, by go_num, rfl, by omega, HS2, trivial⟩
        case measure => simp [intOf]; omega
    · have hlt' : ¬ (i : Int) < (n : Int) := by omega
      obtain rfl : i = n := by omega
      have HCn : Hid (wcn K ws = c) := HEnd.out.symm.trans HC.out
      go_wp2
      go_ret
      exact ⟨by rw [HCn.out]; rfl, Below.refl _ _⟩

set_option maxRecDepth 100000 in
set_option maxHeartbeats 4000000 in
theorem ranswers_any (w : World) (r : Nat) (lim K : Int) (v : Value) (ws : List Wa) (h : Rl w r lim v ws) (n : Nat) (hn : ws.length = n) (hnb : n ≤ 68719476736) :
    Calls Tryd.prog 45 #[.pointer (some ⟨r, 0, none⟩), .int .i64 K] w fun e w' => e = .returned (.int .i64 (wan K ws : Nat)) ∧ Below w.heap.size w w' := by
  obtain ⟨va, vc, hv⟩ := own_sl h.row
  rw [hn] at hv
  have c1 : w.cell? ⟨r, 1, none⟩ = some (.slice va n vc) := by rw [← hv]; exact (cell_of_row _ _ _ _ _ _ h.box).trans rfl
  have HL : Hid (Rl w r lim v ws ∧ ws.length = n ∧ v = .slice va n vc) := ⟨h, hn, hv⟩
  have hend : (wan K (ws.take n)) = wan K ws := by rw [List.take_of_length_le (by omega)]
  have HEnd : Hid (wan K (ws.take n) = wan K ws) := hend
  clear h hn hv hend
  go_enter Tryd.func45, Tryd.ntmps45
  go_wp2_with fail
  go_loopw [5, 6, 7] (fun s5 s6 _ wr => ∃ i c : Nat, i ≤ n ∧ s6 = .int .i64 i ∧ s5 = .int .i64 c ∧ c ≤ i ∧ Hid (wan K (ws.take i) = c) ∧ w = wr) (fun _ s6 _ _ => n - (intOf s6).toNat)
  case atStart => exact ⟨0, 0, by omega, rfl, rfl, by omega, (show wan K (ws.take 0) = 0 by simp [wan]), rfl⟩
  case round =>
    obtain ⟨i, c, hi, rfl, rfl, hci, HC, hwr⟩ := hrel
    subst hwr
    by_cases hlt : i < n
    · have hlt' : (i : Int) < (n : Int) := by omega
      have h0i : 0 ≤ (i : Int) := by omega
      have hwi : IntKind.i64.wrap ((i : Int) + 1) = (i : Int) + 1 := by rw [IntKind.wrap_i64]; omega
      have hwc : IntKind.i64.wrap ((c : Int) + 1) = (c : Int) + 1 := by rw [IntKind.wrap_i64]; omega
      obtain ⟨x, hx⟩ := get_one ws i (by rw [HL.out.2.1]; exact hlt)
      obtain ⟨g, cc, e1, hcl⟩ := HL.out.1.cell hx
      rw [HL.out.2.2, HL.out.2.1] at e1
      simp only [Value.slice.injEq, true_and] at e1
      obtain ⟨rfl, rfl⟩ := e1
      have x0 := hcl 0 _ rfl
      rw [Nat.add_zero] at x0
      have x1 := hcl 1 _ rfl
      have hrk := rank11_any x.y.s.typ w
      rw [(kd_n x.y.s.typ).1] at hrk
      obtain ⟨kn, hkn⟩ : ∃ kn, kdn x.y.s.typ = kn := ⟨_, rfl⟩
      rw [hkn] at hrk
      have HS : Hid (wan K (ws.take (i + 1)) = c + (if x.p = K ∧ kn = 0 then 1 else 0)) := by show _ = _; rw [wan_step hx, HC.out, hkn]
      clear hcl hx hkn
      go_wp2_with fail
      refine hrk.mono ?_
      rintro e w1 ⟨rfl, rfl⟩
      clear hrk
      by_cases e : x.p = K
      · by_cases e2 : kn = 0
        · have HS2 : Hid (wan K (ws.take (i + 1)) = c + 1) := by show _ = _; rw [HS.out, if_pos ⟨e, e2⟩]
          subst e e2
          go_wp2
          go_roundw
          case rel => exact ⟨i + 1, c + 1, by omega, by go_num, by go_num, by omega, HS2, trivial⟩
          case measure => simp [intOf]; omega
        · have e2' : ¬ (kn : Int) = 0 := by omega
          have e2b : ((kn : Int) == 0) = false := by simpa using e2'
          have HS2 : Hid (wan K (ws.take (i + 1)) = c) := by show _ = _; rw [HS.out, if_neg (fun h => e2 h.2)]; rfl
          subst e
          go_wp2
          go_roundw
          case rel => exact ⟨i + 1, c, by omega, by go_num, rfl, by omega, HS2, trivial⟩
          case measure => simp [intOf]; omega
      · have eb : (x.p == K) = false := by simpa using e
        have HS2 : Hid (wan K (ws.take (i + 1)) = c) := by show _ = _; rw [HS.out, if_neg (fun h => e h.1)]; rfl
        go_wp2
        go_roundw
        case rel => exact ⟨i + 1, c, by omega, by go_num, rfl, by omega, HS2, trivial⟩
        case measure => simp [intOf]; omega
    · have hlt' : ¬ (i : Int) < (n : Int) := by omega
      obtain rfl : i = n := by omega
      have HCn : Hid (wan K ws = c) := HEnd.out.symm.trans HC.out
      go_wp2
      go_ret
      exact ⟨by rw [HCn.out]; rfl, Below.refl _ _⟩

end Go.Proofs.YtdfdaambfihjaaaDoor.L

namespace Go.Proofs.YtdfdaambfihjaaaDoor.L
open Go.RowKit
set_option linter.unusedVariables false
set_option linter.unusedSimpArgs false

theorem wts_info : (Tryd.prog.info? 77).map (fun i => (i.zero, i.size, i.bytes)) = some (some (.agg #[.int .i64 0, .int .i64 0, .int .i64 0, .int .i64 0, .slice none 0 0, .slice none 0 0, .int .i64 0, .int .i64 0, .slice none 0 0, .int .i64 0, .int .i64 0, .int .i64 0, .int .i64 0, .slice none 0 0, .int .i64 0]), 15, 184) := by kernel_rfl
theorem Wa.one {x : Wa} (h : x.y.Sl) : ∀ u ∈ x.L, u.oneCell' = true := fun u hu => by
  rcases List.mem_cons.mp hu with rfl | hu
  · rfl
  · exact h.one u hu
/-- What the reference's Put leaves where it takes a segment. -/
structure RpP (w w' : World) (r : Nat) (lim K : Int) (v v' : Value) (ws : List Wa) (s : Sg) (y : Sv) (lo hi : Nat) : Prop where
  ys : y.s = s
  rl : Rl w' r lim v' (ws ++ [⟨K, y⟩])
  at' : ∀ g, v'.ownBlock = some g → v.ownBlock = some g ∨ w.heap.size ≤ g
  kl : Kl (fun g => g = r ∨ v.ownBlock = some g) w w'
  l0 : w.heap.size ≤ lo
  h0 : hi ≤ w'.heap.size
  nf : ∀ g, v'.ownBlock = some g → ¬ (lo ≤ g ∧ g < hi)
  sl : y.Sl
  st : StR (fun W => SAt W y) lo hi w'
def RpR (w : World) (r : Nat) (lim K : Int) (v : Value) (ws : List Wa) (s : Sg) (z : Int) (e : Ending) (w' : World) : Prop :=
  (∃ q : Int, q ≠ 0 ∧ e = .returned (.int .i64 q) ∧ Below w.heap.size w w' ∧ ((z ≠ 0 ∧ q = z) ∨ (z = 0 ∧ kdn s.typ = 0 ∧ lim ≤ (wan K ws : Nat) ∧ q = 110))) ∨
  (z = 0 ∧ (kdn s.typ = 0 → (wan K ws : Nat) < lim) ∧ e = .returned (.int .i64 0) ∧ ∃ v' y lo hi, RpP w w' r lim K v v' ws s y lo hi)

set_option maxRecDepth 100000 in
set_option maxHeartbeats 8000000 in
/-- The reference's Put; what its Right answers is handed in. -/
theorem rput_any (w : World) (r : Nat) (lim K : Int) (v : Value) (ws : List Wa) (h : Rl w r lim v ws) (n : Nat) (hn : ws.length = n) (hnb : n ≤ 68719476735) (hK1 : 1 ≤ K) (hK2 : K ≤ 4611686018427387903) (s : Sg) (hv tv dv cv : Value) (hx tx : List Xr) (hs : SIn w s hv tv dv cv hx tx) (z : Int) (hz : (prt s hx tx).1 = z)
    (hRt : ∀ V, SIn V s hv tv dv cv hx tx → Calls Tryd.prog 44 #[.agg (svC s hv tv dv cv)] V fun e w' => e = .returned (.int .i64 (prt s hx tx).1) ∧ Below V.heap.size V w') :
    Calls Tryd.prog 18 #[.pointer (some ⟨r, 0, none⟩), .int .i64 K, .agg (svC s hv tv dv cv)] w (RpR w r lim K v ws s z) := by
  obtain ⟨W, hW⟩ : ∃ W, w.alloc (.cells (svC s hv tv dv cv) 37) = W := ⟨_, rfl⟩
  have HWe : Hid (w.alloc (.cells (svC s hv tv dv cv) 37) = W) := hW
  have bW : Below w.heap.size w W := by rw [← hW]; exact (Below.refl _ _).alloc (Nat.le_refl _) _
  have hnw : W.heap[w.heap.size]? = some (.cells (svC s hv tv dv cv) 37 (0, 0)) := by rw [← hW]; exact heap_alloc_new' _ _
  obtain ⟨B, hB⟩ : ∃ B, w.heap.size = B := ⟨_, rfl⟩
  rw [hB] at hnw
  have HB : Hid (w.heap.size = B ∧ W.heap[B]? = some (.cells (svC s hv tv dv cv) 37 (0, 0))) := ⟨hB, hnw⟩
  have HS : Hid (∀ V : World, Below w.heap.size w V → SIn V s hv tv dv cv hx tx ∧ Rl V r lim v ws) := fun V hV => ⟨hs.below hV, h.below hV⟩
  have HbW : Hid (Below w.heap.size w W) := bW
  have hR := hRt W (HS.out W bW).1
  rw [hz] at hR
  have HZ : Hid ((prt s hx tx).1 = z) := hz
  have HL : Hid (Rl w r lim v ws ∧ ws.length = n) := ⟨h, hn⟩
  obtain ⟨y0, y1, y2, y3, y4, y5, y6, y7, y8, y9, y10, y11, y12, y13⟩ := s14_cells hnw
  have hk1 : ¬ K < 1 := by omega
  have hk2 : ¬ 4611686018427387903 < K := by omega
  clear h hs hW bW hz hRt hnw hn
  go_enter Tryd.func18, Tryd.ntmps18
  go_upto_region 3 with fail
  rw [HWe.out]
  go_wp2_with fail
  refine hR.mono ?_
  rintro e W1 ⟨rfl, hb1⟩
  have HbW1 : Hid (Below w.heap.size w W1 ∧ W1.heap[B]? = some (.cells (svC s hv tv dv cv) 37 (0, 0))) := ⟨HbW.out.trans (hb1.mono HbW.out.size), (hb1.block B (Array.getElem?_eq_some_iff.1 HB.out.2).1).trans HB.out.2⟩
  clear y0 y1 y2 y3 y4 y5 y6 y7 y8 y9 y10 y11 y12 y13 hR hb1
  obtain ⟨y0, y1, y2, y3, y4, y5, y6, y7, y8, y9, y10, y11, y12, y13⟩ := s14_cells HbW1.out.2
  by_cases hz0 : z = 0
  · subst hz0
    have hrk := rank11_any s.typ W1
    rw [(kd_n s.typ).1] at hrk
    obtain ⟨kn, hkn⟩ : ∃ kn, kdn s.typ = kn := ⟨_, rfl⟩
    rw [hkn] at hrk
    have HKN : Hid (kdn s.typ = kn) := hkn
    have hAn := ranswers_any W1 r lim K v ws (HS.out W1 HbW1.out.1).2 n HL.out.2 (by omega)
    obtain ⟨L0, hL0⟩ : ∃ L0, wan K ws = L0 := ⟨_, rfl⟩
    rw [hL0] at hAn
    have HL0 : Hid (wan K ws = L0) := hL0
    have hL0b : L0 ≤ 68719476735 := by rw [← hL0]; have := wan_le K ws; have := HL.out.2; omega
    clear hkn hL0
    go_wp2_with fail
    refine hrk.mono ?_
    rintro e W1' ⟨rfl, rfl⟩
    clear hrk
    go_wp2_with fail
    refine hAn.mono ?_
    rintro e W2 ⟨rfl, hb2⟩
    have HbW2 : Hid (Below w.heap.size w W2 ∧ W2.heap[B]? = some (.cells (svC s hv tv dv cv) 37 (0, 0))) := ⟨HbW1.out.1.trans (hb2.mono HbW1.out.1.size), (hb2.block B (Array.getElem?_eq_some_iff.1 HbW1.out.2).1).trans HbW1.out.2⟩
    clear y0 y1 y2 y3 y4 y5 y6 y7 y8 y9 y10 y11 y12 y13 hAn hb2
    obtain ⟨y0, y1, y2, y3, y4, y5, y6, y7, y8, y9, y10, y11, y12, y13⟩ := s14_cells HbW2.out.2
    have c0 : W2.cell? ⟨r, 0, none⟩ = some (.int .i64 lim) := (cell_of_row _ _ _ _ _ _ (HS.out W2 HbW2.out.1).2.box).trans rfl
    have hCp := rcopy_any s hv tv dv cv hx tx W2 (HS.out W2 HbW2.out.1).1 (prt_ok HZ.out).1 (prt_ok HZ.out).2
    go_upto_region 8 with fail
    obtain ⟨cb, hcb⟩ : ∃ cb, decide (kn = 0 ∧ lim ≤ (L0 : Int)) = cb := ⟨_, rfl⟩
    have HCb : Hid (decide (kn = 0 ∧ lim ≤ (L0 : Int)) = cb) := hcb
    go_cut [37] from 28 to 51 (fun c wx => c = .bool cb ∧ W2 = wx)
    case first =>
      by_cases e1 : kn = 0
      · subst e1
        by_cases e2 : lim ≤ (L0 : Int)
        · have e3 : cb = true := by rw [← hcb]; simp [e2]
          subst e3
          clear hcb
          go_wp2_with fail
          go_meet
          exact ⟨rfl, rfl⟩
        · have e3 : cb = false := by rw [← hcb]; simp; omega
          have e4 : (L0 : Int) < lim := by omega
          subst e3
          clear hcb
          go_wp2_with fail
          go_meet
          exact ⟨rfl, rfl⟩
      · have e3 : cb = false := by rw [← hcb]; simp [e1]
        have e1' : ¬ (kn : Int) = 0 := by omega
        have e1b : ((kn : Int) == 0) = false := by simpa using e1'
        subst e3
        clear hcb
        go_wp2_with fail
        go_meet
        exact ⟨rfl, rfl⟩
    case rest =>
    obtain ⟨rfl, hwc⟩ := hcut
    subst hwc
    clear hcb
    cases cb with
    | true =>
      have hf : kn = 0 ∧ lim ≤ (L0 : Int) := by simpa using HCb.out
      have HF : Hid (kn = 0 ∧ lim ≤ (L0 : Int)) := hf
      clear hf hCp
      go_wp2
      go_ret
      exact .inl ⟨110, by decide, rfl, HbW2.out.1, .inr ⟨rfl, HKN.out.trans HF.out.1, by rw [HL0.out]; exact HF.out.2, rfl⟩⟩
    | false =>
      have HF : Hid (kdn s.typ = 0 → ((wan K ws : Nat) : Int) < lim) := fun e => by
        have h1 : ¬ (kn = 0 ∧ lim ≤ (L0 : Int)) := by simpa using HCb.out
        rw [HL0.out]
        have := HKN.out
        omega
      go_wp2_with fail
      refine hCp.mono ?_
      rintro e W3 ⟨y, hys, rfl, hyl, hb3, hst3⟩
      have H3 : Hid (y.s = s ∧ y.Sl ∧ Below W2.heap.size W2 W3 ∧ Stb (fun W => SAt W y) W2.heap.size W3 ∧ Below w.heap.size w W3) := ⟨hys, hyl, hb3, hst3, HbW2.out.1.trans (hb3.mono HbW2.out.1.size)⟩
      clear hCp hys hb3 hst3 y0 y1 y2 y3 y4 y5 y6 y7 y8 y9 y10 y11 y12 y13 c0
      obtain ⟨sy, hvy, tvy, dvy, cvy⟩ := y
      obtain ⟨⟨a1, n1, c1, rfl⟩, ⟨a2, n2, c2, rfl⟩, ⟨a3, n3, c3, rfl⟩, a4, n4, c4, rfl⟩ := hyl
      go_upto_region 11 with fail
      obtain ⟨i0, hi, hz0, hz1, hz2⟩ := info_parts wts_info
      obtain ⟨W4, hW4⟩ : ∃ V, W3.alloc (.cells #[.int .i64 sy.typ, .int .i64 sy.org, .int .i64 sy.num, .slice a1 n1 c1, .slice a2 n2 c2, .int .i64 sy.srv, .int .i64 sy.off, .slice a3 n3 c3, .int .i64 sy.chk, .int .i64 sy.rep, .int .i64 sy.upp, .int .i64 sy.low, .slice a4 n4 c4, .int .i64 sy.rsn] 37) = V := ⟨_, rfl⟩
      rw [hW4]
      have b4 : Below W3.heap.size W3 W4 := by rw [← hW4]; exact (Below.refl _ _).alloc (Nat.le_refl _) _
      have hn4 : W4.heap[W3.heap.size]? = some (.cells (svC sy (.slice a1 n1 c1) (.slice a2 n2 c2) (.slice a3 n3 c3) (.slice a4 n4 c4)) 37 (0, 0)) := by rw [← hW4]; exact heap_alloc_new' _ _
      have hR4 := ((HS.out W3 H3.out.2.2.2.2).2).below b4
      obtain ⟨va, vc, hve⟩ := own_sl hR4.row
      rw [HL.out.2] at hve
      subst hve
      have c1' : W4.cell? ⟨r, 1, none⟩ = some (.slice va n vc) := (cell_of_row _ _ _ _ _ _ hR4.box).trans rfl
      have f1' : W4.frozen? ⟨r, 1, none⟩ = false := frozen_of_row _ _ _ _ _ hR4.box
      have pa : ∀ q, (W4.alloc q).cell? ⟨r, 1, none⟩ = some (.slice va n vc) := fun q => cell_below c1' ((Below.refl _ _).alloc (Nat.le_refl _) q)
      obtain ⟨y0, y1, y2, y3, y4, y5, y6, y7, y8, y9, y10, y11, y12, y13⟩ := s14_cells hn4
      obtain ⟨D, hD⟩ : ∃ D, W3.heap.size = D := ⟨_, rfl⟩
      rw [hD] at y0 y1 y2 y3 y4 y5 y6 y7 y8 y9 y10 y11 y12 y13 ⊢
      have hrow := hR4.row
      rw [HL.out.2] at hrow
      have H4 : Hid (Below W3.heap.size W3 W4 ∧ Rl W4 r lim (.slice va n vc) ws ∧ W4.ownsRow 0 77 15 (.slice va n vc) n (wsg ws) ∧ W3.heap.size = D) := ⟨b4, hR4, hrow, hD⟩
      have HOne : Hid (∀ u ∈ (⟨K, (⟨sy, .slice a1 n1 c1, .slice a2 n2 c2, .slice a3 n3 c3, .slice a4 n4 c4⟩ : Sv)⟩ : Wa).L, u.oneCell' = true) := Wa.one H3.out.2.1
      clear hW4 b4 hn4 hR4 hrow hD
      go_region_law (first
        | (refine step_append_at rfl (.tmp 44) (.tmp 48) 64 rfl 0 77 i0 _ 15 184 Tryd.underlying64 hi hz0 hz1 hz2 rfl (by decide) (.slice va n vc) n (wsg ws) (by simp [Act.eval]) (World.ownsRow.alloc (own_dr H4.out.2.2.1 1) _) ⟨W4.heap.size, 0, none⟩ 1 1 (⟨K, (⟨sy, .slice a1 n1 c1, .slice a2 n2 c2, .slice a3 n3 c3, .slice a4 n4 c4⟩ : Sv)⟩ : Wa).L (by simp [Act.eval]) rfl (row_new W4 (⟨K, (⟨sy, .slice a1 n1 c1, .slice a2 n2 c2, .slice a3 n3 c3, .slice a4 n4 c4⟩ : Sv)⟩ : Wa).L 77 1) HOne.out (by unfold maxLen; omega) (by omega) (by simp) ?_
           intro v6 w6 hown6 hgrow6 hat6
           have hg6 := grown_dr hgrow6
           obtain ⟨a6, c6, hv6⟩ := own_sl hown6
           subst hv6
           have hnr : (Value.slice va n vc).ownBlock ≠ some r := own_hp H4.out.2.2.1 H4.out.2.1.box (by decide)
           have hbx : w6.heap[r]? = W4.heap[r]? := grown_blk hg6 (Array.getElem?_eq_some_iff.1 H4.out.2.1.box).1 hnr
           have p06 : w6.cell? ⟨r, 1, none⟩ = some (.slice va n vc) := (World.cell?_of_block (a := ⟨r, 1, none⟩) hbx).trans c1'
           have f06 : w6.frozen? ⟨r, 1, none⟩ = false := (World.frozen?_of_block (a := ⟨r, 1, none⟩) hbx).trans f1'
           have HX : Hid (RpP w (w6.setCell ⟨r, 1, none⟩ (.slice a6 (n + 1) c6)) r lim K (.slice va n vc) (.slice a6 (n + 1) c6) ws s (⟨sy, .slice a1 n1 c1, .slice a2 n2 c2, .slice a3 n3 c3, .slice a4 n4 c4⟩ : Sv) W2.heap.size W3.heap.size) := by
             have hb6 := hbx.trans H4.out.2.1.box
             obtain ⟨e1, e2, e3, e4, e5⟩ := H3.out
             have bw4 : Below w.heap.size w W4 := e5.trans (H4.out.1.mono e5.size)
             have s2 := HbW2.out.1.size
             have s3 := e3.size
             have s4 := H4.out.1.size
             have h7 := own_hp hown6 hb6 (by decide)
             have vl : ∀ g, (Value.slice va n vc).ownBlock = some g → g < w.heap.size := fun g hg => (HL.out.1.row.lt g hg).2
             have rl : r < w.heap.size := (Array.getElem?_eq_some_iff.1 HL.out.1.box).1
             have nw : ∀ g, (Value.slice a6 (n + 1) c6).ownBlock = some g → (Value.slice va n vc).ownBlock = some g ∨ W4.heap.size ≤ g := fun g hg => by
               rcases hat6 with e | e
               · exact .inl (by rw [← e]; exact hg)
               · rw [hg] at e; simp at e; exact .inr (by omega)
             refine ⟨e1, ⟨?_, ?_⟩, fun g hg => ?_, ?_, s2, ?_, fun g hg e => ?_, e2, fun V hV => e4 V (fun g h0 h1 => (hV g h0 h1).trans ?_)⟩
             · have := heap_setCell_same w6 r 1 _ _ (.slice a6 (n + 1) c6) hb6
               rw [this]
               simp
             · rw [List.length_append, wsg_app, HL.out.2, show wsg [(⟨K, (⟨sy, .slice a1 n1 c1, .slice a2 n2 c2, .slice a3 n3 c3, .slice a4 n4 c4⟩ : Sv)⟩ : Wa)] = (⟨K, (⟨sy, .slice a1 n1 c1, .slice a2 n2 c2, .slice a3 n3 c3, .slice a4 n4 c4⟩ : Sv)⟩ : Wa).L by simp [wsg]]
               exact own_blk hown6 (fun g hg => heap_setCell_other _ _ _ _ (fun e => h7 (by rw [hg, e])))
             · rcases nw g hg with e | e
               · exact .inl e
               · exact .inr (by omega)
             · exact ((Kl.of_below bw4).grown hg6 (fun k hk => .inl (.inr hk))).grown (grown_set _ _ _ _) (fun k hk => .inl (.inl (by simpa using hk.symm)))
             · have := hg6.size; simp [World.setCell]; omega
             · rcases nw g hg with e' | e'
               · have := vl g e'; omega
               · omega
             · rw [heap_setCell_other _ _ _ _ (by simp; omega), grown_blk hg6 (by omega) (fun e => by have := vl g e; omega)]
               exact H4.out.1.block g h1
           clear hown6 hgrow6 hat6 hg6 hbx))
      all_goals (
        go_wp2
        go_ret
        exact .inr ⟨rfl, HF.out, rfl, _, _, _, _, HX.out⟩)
  · have hz2 : (z == 0) = false := by simpa using hz0
    have HZ0 : Hid (z ≠ 0) := hz0
    go_wp2
    go_ret
    exact .inl ⟨z, HZ0.out, rfl, HbW1.out.1, .inl ⟨HZ0.out, rfl⟩⟩

end Go.Proofs.YtdfdaambfihjaaaDoor.L
