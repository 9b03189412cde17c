import Derived.Test.YtcfodcioeefbeaaDoorBkFil
import Derived.Maps.AppendAt
import Derived.OwnWalk
import Derived.Laws.OwnMore
namespace Go.Proofs.YtcfodcioeefbeaaDoor
open Go.RowKit

/-- A box of five numbers. -/
theorem box5 {W : World} {g : Nat} {t : TypeId} {a b c d e : Value} (h : W.heap[g]? = some (.cells #[a, b, c, d, e] t)) :
    W.cell? ⟨g, 0, none⟩ = some a ∧ W.cell? ⟨g, 1, none⟩ = some b ∧ W.cell? ⟨g, 2, none⟩ = some c ∧ W.cell? ⟨g, 3, none⟩ = some d ∧ W.cell? ⟨g, 4, none⟩ = some e ∧
    W.frozen? ⟨g, 0, none⟩ = false ∧ W.frozen? ⟨g, 1, none⟩ = false ∧ W.frozen? ⟨g, 2, none⟩ = false ∧ W.frozen? ⟨g, 3, none⟩ = false ∧ W.frozen? ⟨g, 4, none⟩ = false :=
  ⟨cell_of_row _ _ 0 _ _ _ h, cell_of_row _ _ 1 _ _ _ h, cell_of_row _ _ 2 _ _ _ h, cell_of_row _ _ 3 _ _ _ h, cell_of_row _ _ 4 _ _ _ h, frozen_of_row _ _ 0 _ _ h, frozen_of_row _ _ 1 _ _ h, frozen_of_row _ _ 2 _ _ h, frozen_of_row _ _ 3 _ _ h, frozen_of_row _ _ 4 _ _ h⟩
theorem five_below {B g : Nat} {w W : World} (h : Below B w W) (hg : B ≤ g) (a b c d e : Value) : Below B w (((((W.setCell ⟨g, 0, none⟩ a).setCell ⟨g, 1, none⟩ b).setCell ⟨g, 2, none⟩ c).setCell ⟨g, 3, none⟩ d).setCell ⟨g, 4, none⟩ e) :=
  ((((h.setCell hg _).setCell hg _).setCell hg _).setCell hg _).setCell hg _

theorem fill_0 {k : Pk} (ok : k.Ok) (t at' en : Int) (htt : t = 0 ∨ t = 4) (w : World) (hT : Tab w) (h0 : 0 ≤ at') (h1 : at' ≤ 65535) :
    Calls Tryd.prog 27 #[.agg (knC k), .agg #[.int .i64 t, .int .i64 at', .int .i64 0, .int .i64 0, .int .i64 0], .int .i64 en] w (PcPost ⟨t, at', min (at' + ro0 k at') en, 0, 0⟩ w) := by
  have hc : cks t = false := by rcases htt with rfl | rfl <;> rfl
  have hF : frX k ⟨t, at', 0, 0, 0⟩ = fr0 k at' := by unfold frX; rw [hc]; rfl
  have hb := fr0_bd ok h0 (by omega)
  have hl := ro0_low ok h0 (by omega)
  exact fill_go ok ⟨t, at', 0, 0, 0⟩ en (rmz (fr0 k at') k.mtu) (by rw [hF]) w hT (by rcases htt with rfl | rfl <;> simp [PTy]) (.inr ⟨hc, rfl, rfl⟩) h0 h1 (by rw [hF]; omega) (by rw [hF]; omega) (by unfold ro0 at hl; omega)

theorem fill_1 {k : Pk} (ok : k.Ok) (at' en c r : Int) (w : World) (hT : Tab w) (h0 : 0 ≤ at') (h1 : at' ≤ 65535) (hc : 1 ≤ c ∧ c ≤ 4611686018427387903) (hr : 0 ≤ r ∧ r ≤ 4611686018427387903) :
    Calls Tryd.prog 27 #[.agg (knC k), .agg #[.int .i64 1, .int .i64 at', .int .i64 0, .int .i64 c, .int .i64 r], .int .i64 en] w (PcPost ⟨1, at', min (at' + ro1 k at' c r) en, c, r⟩ w) := by
  have hF : frX k ⟨1, at', 0, c, r⟩ = fr1 k at' c r := rfl
  have hb := fr1_bd ok h0 (by omega) (c := c) (r := r) (by omega) hr
  have hl := ro1_low ok h0 (by omega) (c := c) (r := r) (by omega) hr
  exact fill_go ok ⟨1, at', 0, c, r⟩ en (rmz (fr1 k at' c r) k.mtu) (by rw [hF]) w hT (.inr (.inl rfl)) (.inl ⟨rfl, hc.1, hc.2, hr.1, hr.2⟩) h0 h1 (by rw [hF]; omega) (by rw [hF]; omega) (by unfold ro1 at hl; omega)

set_option maxHeartbeats 1000000 in
theorem plain_any {k : Pk} (ok : k.Ok) (at' en : Int) (w : World) (hT : Tab w) (h0 : 0 ≤ at') (h1 : at' ≤ 65535) :
    Calls Tryd.prog 26 #[.agg (knC k), .int .i64 at', .int .i64 en] w (PcPost (pPc k at' en) w) := by
  have HT : Hid (Tab w) := hT
  have HF : Hid (∀ W, Below w.heap.size w W → Calls Tryd.prog 27 #[.agg (knC k), .agg #[.int .i64 0, .int .i64 at', .int .i64 0, .int .i64 0, .int .i64 0], .int .i64 en] W (PcPost ⟨0, at', min (at' + ro0 k at') en, 0, 0⟩ W)) := fun W hb => fill_0 ok 0 at' en (.inl rfl) W (hT.below hb (tab_pos hT)) h0 h1
  unfold pPc
  clear hT ok
  generalize min (at' + ro0 k at') en = T at *
  go_enter Tryd.func26, Tryd.ntmps26
  go_wp2_with fail
  refine (HF.out _ (((Below.refl _ _).alloc (Nat.le_refl _) _).alloc (by simp) _)).mono ?_
  rintro e w2 ⟨rfl, hb2⟩
  have hz : w2.heap[w.heap.size + 1]? = some (.cells pz 56) := by
    refine (hb2.block _ (by simp)).trans ?_
    have := heap_alloc_new' (w.alloc (.cells (knC k) 71)) (.cells pz 56)
    rw [World.size_alloc] at this; exact this
  obtain ⟨z0, z1, z2, z3, z4, f0, f1, f2, f3, f4⟩ := box5 hz
  have HB2 : Hid (Below w.heap.size w w2) := (((Below.refl _ _).alloc (Nat.le_refl _) _).alloc (by simp) _).trans (hb2.mono (by simp; omega))
  clear hb2 hz HF HT
  go_wp2
  refine bodyPost_ret (v := .agg #[.int .i64 0, .int .i64 at', .int .i64 T, .int .i64 0, .int .i64 0]) (by simp [results, Tryd.results26, go_sem, z0, z1, z2, z3, z4]) rfl ?_
  exact ⟨rfl, five_below HB2.out (by omega) _ _ _ _ _⟩

set_option maxHeartbeats 1000000 in
theorem endType_any (k : Pk) (w : World) :
    Calls Tryd.prog 31 #[.agg #[.int .i64 k.srv, .int .i64 k.size, .int .i64 k.red, .int .i64 k.mtu, .int .i64 k.every]] w fun e w' => e = .returned (.int .i64 (endT k)) ∧ Below w.heap.size w w' := by
  unfold endT
  go_enter Tryd.func31, Tryd.ntmps31
  by_cases h : k.red < k.size
  · rw [if_pos h]
    go_wp2
    go_ret
    exact ⟨rfl, (Below.refl _ _).alloc (Nat.le_refl _) _⟩
  · rw [if_neg h]
    go_wp2
    go_ret
    exact ⟨rfl, (Below.refl _ _).alloc (Nat.le_refl _) _⟩

set_option maxHeartbeats 1000000 in
theorem checkpoint_any {k : Pk} (ok : k.Ok) (at' en c r : Int) (w : World) (hT : Tab w) (h0 : 0 ≤ at') (h1 : at' ≤ 65535) (hc : 1 ≤ c ∧ c ≤ 4611686018427387903) (hr : 0 ≤ r ∧ r ≤ 4611686018427387903) :
    Calls Tryd.prog 25 #[.agg (knC k), .int .i64 at', .int .i64 en, .int .i64 c, .int .i64 r] w (PcPost (cPc k at' en c r) w) := by
  have HT : Hid (Tab w) := hT
  have HF : Hid (∀ W, Below w.heap.size w W → Calls Tryd.prog 27 #[.agg (knC k), .agg #[.int .i64 1, .int .i64 at', .int .i64 0, .int .i64 c, .int .i64 r], .int .i64 en] W (PcPost ⟨1, at', min (at' + ro1 k at' c r) en, c, r⟩ W)) := fun W hb => fill_1 ok at' en c r W (hT.below hb (tab_pos hT)) h0 h1 hc hr
  unfold cPc ckT
  clear hT ok
  generalize min (at' + ro1 k at' c r) en = T at *
  obtain ⟨Y, hY⟩ : ∃ Y, (if T = k.red then endT k else 1) = Y := ⟨_, rfl⟩
  rw [hY]
  have HY : Hid ((if T = k.red then endT k else 1) = Y) := hY
  clear hY
  go_enter Tryd.func25, Tryd.ntmps25
  go_wp2_with fail
  refine (HF.out _ (((Below.refl _ _).alloc (Nat.le_refl _) _).alloc (by simp) _)).mono ?_
  rintro e w2 ⟨rfl, hb2⟩
  have hz : w2.heap[w.heap.size + 1]? = some (.cells pz 56) := by
    refine (hb2.block _ (by simp)).trans ?_
    have := heap_alloc_new' (w.alloc (.cells (knC k) 71)) (.cells pz 56)
    rw [World.size_alloc] at this; exact this
  have hk : w2.heap[w.heap.size]? = some (.cells (knC k) 71) := (hb2.block _ (by simp; omega)).trans (heapA (heap_alloc_new' _ _) _)
  have hz2 : w.heap.size + 2 ≤ w2.heap.size := by have := hb2.size; simpa using this
  have HB2 : Hid (Below w.heap.size w w2) := (((Below.refl _ _).alloc (Nat.le_refl _) _).alloc (by simp) _).trans (hb2.mono (by simp; omega))
  have HZ : Hid ((w2.alloc (.cells #[.int .i64 1, .int .i64 at', .int .i64 T, .int .i64 c, .int .i64 r] 56)).heap[w.heap.size + 1]? = some (.cells pz 56)) := heapA hz _
  have HX : Hid ((w2.alloc (.cells #[.int .i64 1, .int .i64 at', .int .i64 T, .int .i64 c, .int .i64 r] 56)).heap[w2.heap.size]? = some (.cells #[.int .i64 1, .int .i64 at', .int .i64 T, .int .i64 c, .int .i64 r] 56)) := heap_alloc_new' _ _
  have hk' := heapA hk (.cells #[.int .i64 1, .int .i64 at', .int .i64 T, .int .i64 c, .int .i64 r] 56)
  have k2 : (w2.alloc (.cells #[.int .i64 1, .int .i64 at', .int .i64 T, .int .i64 c, .int .i64 r] 56)).cell? ⟨w.heap.size, 2, none⟩ = some (.int .i64 k.srv) := cell_of_row _ _ 2 _ _ _ hk'
  have k3 : (w2.alloc (.cells #[.int .i64 1, .int .i64 at', .int .i64 T, .int .i64 c, .int .i64 r] 56)).cell? ⟨w.heap.size, 3, none⟩ = some (.int .i64 k.size) := cell_of_row _ _ 3 _ _ _ hk'
  have k4 : (w2.alloc (.cells #[.int .i64 1, .int .i64 at', .int .i64 T, .int .i64 c, .int .i64 r] 56)).cell? ⟨w.heap.size, 4, none⟩ = some (.int .i64 k.red) := cell_of_row _ _ 4 _ _ _ hk'
  have k5 : (w2.alloc (.cells #[.int .i64 1, .int .i64 at', .int .i64 T, .int .i64 c, .int .i64 r] 56)).cell? ⟨w.heap.size, 5, none⟩ = some (.int .i64 k.mtu) := cell_of_row _ _ 5 _ _ _ hk'
  have k6 : (w2.alloc (.cells #[.int .i64 1, .int .i64 at', .int .i64 T, .int .i64 c, .int .i64 r] 56)).cell? ⟨w.heap.size, 6, none⟩ = some (.int .i64 k.every) := cell_of_row _ _ 6 _ _ _ hk'
  have HB3 : Hid (Below w.heap.size w (w2.alloc (.cells #[.int .i64 1, .int .i64 at', .int .i64 T, .int .i64 c, .int .i64 r] 56))) := HB2.out.alloc (by omega) _
  clear hb2 HF HT hk hk' hz HB2
  by_cases hTr : T = k.red
  · have HY1 : Hid (Y = endT k) := by have := HY.out; rw [if_pos hTr] at this; exact this.symm
    clear HY
    subst hTr
    have HEnd := endType_any k
    go_wp2_with fail
    refine (HEnd _).mono ?_
    rintro e w4 ⟨rfl, hb4⟩
    rw [← HY1.out]
    obtain ⟨z0, z1, z2, z3, z4, f0, f1, f2, f3, f4⟩ := box5 ((hb4.block _ (by simp; omega)).trans HZ.out)
    obtain ⟨x0, x1, x2, x3, x4, g0, _, _, _, _⟩ := box5 ((hb4.block _ (by simp)).trans HX.out)
    have HB4 : Hid (Below w.heap.size w w4) := HB3.out.trans (hb4.mono (by simp; omega))
    clear hb4 HEnd k2 k3 k4 k5 k6 HZ HX HB3 HY1
    generalize k.red = T at *
    have hne : w.heap.size + 1 ≠ w2.heap.size := by omega
    have hne' : w2.heap.size ≠ w.heap.size + 1 := by omega
    generalize w2.heap.size = B at *
    go_wp2
    refine bodyPost_ret (v := .agg #[.int .i64 Y, .int .i64 at', .int .i64 T, .int .i64 c, .int .i64 r]) (by simp [results, Tryd.results25, go_sem, z0, z1, z2, z3, z4]) rfl ?_
    exact ⟨rfl, five_below (HB4.out.setCell (by simp; omega) _) (by omega) _ _ _ _ _⟩
  · have HY1 : Hid (Y = 1) := by have := HY.out; rw [if_neg hTr] at this; exact this.symm
    clear HY
    obtain ⟨z0, z1, z2, z3, z4, f0, f1, f2, f3, f4⟩ := box5 HZ.out
    obtain rfl : Y = 1 := HY1.out
    clear HZ HX HY1
    go_wp2
    refine bodyPost_ret (v := .agg #[.int .i64 1, .int .i64 at', .int .i64 T, .int .i64 c, .int .i64 r]) (by simp [results, Tryd.results25, go_sem, z0, z1, z2, z3, z4]) rfl ?_
    exact ⟨rfl, five_below HB3.out (by omega) _ _ _ _ _⟩

end Go.Proofs.YtcfodcioeefbeaaDoor

namespace Go.Proofs.YtcfodcioeefbeaaDoor
open Go.RowKit

def pcL (x : Pc) : List Value := [.int .i64 x.typ, .int .i64 x.frm, .int .i64 x.to, .int .i64 x.chk, .int .i64 x.rep]
theorem Tryd.info_piece : (Tryd.prog.info? 56).map (fun i => (i.zero, i.size, i.bytes)) = some (some (.agg #[.int .i64 0, .int .i64 0, .int .i64 0, .int .i64 0, .int .i64 0]), 5, 40) := by kernel_rfl

/-- A row of pieces of the call's own. -/
def POwn (w : World) (base : Nat) (v : Value) (l : List Pc) : Prop := w.ownsRow base 56 5 v l.length (l.flatMap pcL)

theorem pc_len (l : List Pc) : (l.flatMap pcL).length = l.length * 5 := by
  induction l with
  | nil => rfl
  | cons s r ih => simp [pcL, ih]; omega
theorem pc_get (l : List Pc) (i : Nat) (p : Pc) (h : l[i]? = some p) : (l.flatMap pcL)[i * 5]? = some (.int .i64 p.typ) ∧ (l.flatMap pcL)[i * 5 + 1]? = some (.int .i64 p.frm) ∧ (l.flatMap pcL)[i * 5 + 2]? = some (.int .i64 p.to) ∧ (l.flatMap pcL)[i * 5 + 3]? = some (.int .i64 p.chk) ∧ (l.flatMap pcL)[i * 5 + 4]? = some (.int .i64 p.rep) := by
  induction l generalizing i with
  | nil => simp at h
  | cons s r ih =>
    cases i with
    | zero => simp at h; subst h; simp [pcL]
    | succ i =>
      simp at h
      have := ih i h
      have e : ∀ j, ((s :: r).flatMap pcL)[(i + 1) * 5 + j]? = (r.flatMap pcL)[i * 5 + j]? := fun j => by
        rw [List.flatMap_cons, List.getElem?_append_right (by simp [pcL]; omega)]
        congr 1
        simp [pcL]; omega
      exact ⟨(e 0).trans this.1, (e 1).trans this.2.1, (e 2).trans this.2.2.1, (e 3).trans this.2.2.2.1, (e 4).trans this.2.2.2.2⟩
theorem own_shp {w : World} {base n sz : Nat} {e : TypeId} {v : Value} {xs : List Value} (h : w.ownsRow base e sz v n xs) : ∃ a cap, v = .slice a n cap := by
  obtain ⟨_, ⟨rfl, rfl⟩ | ⟨g, cap, cur, rfl, _⟩⟩ := h
  · exact ⟨none, 0, rfl⟩
  · exact ⟨_, cap, rfl⟩
theorem own_pos {w : World} {base n sz : Nat} {e : TypeId} {v : Value} {xs : List Value} (h : w.ownsRow base e sz v n xs) (hn : 0 < n) : ∃ g cap, v = .slice (some ⟨g, 0, none⟩) n cap := by
  obtain ⟨_, ⟨rfl, rfl⟩ | ⟨g, cap, cur, rfl, _⟩⟩ := h
  · omega
  · exact ⟨g, cap, rfl⟩
/-- The last piece's end. -/
theorem POwn.last {w : World} {base : Nat} {v : Value} {l : List Pc} {u : Pc} (h : POwn w base v (l ++ [u])) : ∃ g cap, v = .slice (some ⟨g, 0, none⟩) (l.length + 1) cap ∧ base ≤ g ∧ g < w.heap.size ∧ w.cell? ⟨g, l.length * 5 + 2, none⟩ = some (.int .i64 u.to) := by
  obtain ⟨g, cap, hv⟩ := own_pos h (by simp)
  have hlen : (l ++ [u]).length = l.length + 1 := by simp
  have q := (pc_get (l ++ [u]) l.length u (by simp)).2.2.1
  have h' := h
  unfold POwn at h'
  rw [hlen] at h' hv
  subst hv
  have hl := World.ownsRow.lt h' g rfl
  exact ⟨g, cap, rfl, hl.1, hl.2, (World.ownsRow.cellAt h' _ (by omega)).trans q⟩
theorem cell_five (w : World) (a b c d e : Value) (t : TypeId) (n : Nat) (hn : n = w.heap.size) : ∀ j u, [a, b, c, d, e][j]? = some u → (w.alloc (.cells #[a, b, c, d, e] t)).cell? ((⟨n, 0, none⟩ : Addr).add j) = some u := by
  subst hn
  intro j u hj
  match j, hj with
  | 0, hj => simp at hj; subst hj; simp [Addr.add]
  | 1, hj => simp at hj; subst hj; simp [Addr.add]
  | 2, hj => simp at hj; subst hj; simp [Addr.add]
  | 3, hj => simp at hj; subst hj; simp [Addr.add]
  | 4, hj => simp at hj; subst hj; simp [Addr.add]

end Go.Proofs.YtcfodcioeefbeaaDoor
