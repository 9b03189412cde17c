import Derived.Test.YtillgoegiplmkaaGreatDoorSpn
import Derived.Maps.AppendAt
import Derived.OwnWalk
import Derived.Laws.OwnMore
import Derived.WalkSmall
namespace Go.Proofs.YtillgoegiplmkaaGreatDoor.C
open Go.RowKit

def spc (p : Sp) : List Value := [.int .i64 p.1, .int .i64 p.2]
theorem Tryz.info_span : (Tryz.prog.info? 90).map (fun i => (i.zero, i.size, i.bytes)) = some (some (.agg #[.int .i64 0, .int .i64 0]), 2, 16) := by kernel_rfl

/-- A row of spans of the call's own. -/
def SOwn (w : World) (base : Nat) (v : Value) (l : List Sp) : Prop := w.ownsRow base 90 2 v l.length (l.flatMap spc)

theorem own_shape {w : World} {base n sz : Nat} {e : TypeId} {v : Value} {xs : List Value} (h : w.ownsRow base e sz v n xs) : ∃ a cap, v = .slice a n cap := by
  obtain ⟨_, ⟨rfl, rfl⟩ | ⟨g, cap, cur, rfl, _⟩⟩ := h
  · exact ⟨none, 0, rfl⟩
  · exact ⟨_, cap, rfl⟩
theorem own_some {w : World} {base n sz : Nat} {e : TypeId} {v : Value} {xs : List Value} (h : w.ownsRow base e sz v n xs) (hn : 0 < n) : ∃ g cap, v = .slice (some ⟨g, 0, none⟩) n cap := by
  obtain ⟨_, ⟨rfl, rfl⟩ | ⟨g, cap, cur, rfl, _⟩⟩ := h
  · omega
  · exact ⟨g, cap, rfl⟩
theorem spc_get (l : List Sp) (i : Nat) (p : Sp) (h : l[i]? = some p) : (l.flatMap spc)[i * 2]? = some (.int .i64 p.1) ∧ (l.flatMap spc)[i * 2 + 1]? = some (.int .i64 p.2) := by
  induction l generalizing i with
  | nil => simp at h
  | cons s r ih =>
    cases i with
    | zero => simp at h; subst h; simp [spc]
    | succ i =>
      simp at h
      have := ih i h
      rw [List.flatMap_cons, List.getElem?_append_right (by simp [spc]; omega), List.getElem?_append_right (by simp [spc]; omega)]
      simp only [spc, List.length_cons, List.length_nil]
      rw [show (i + 1) * 2 - (0 + 1 + 1) = i * 2 from by omega, show (i + 1) * 2 + 1 - (0 + 1 + 1) = i * 2 + 1 from by omega]
      exact this
theorem spc_len (l : List Sp) : (l.flatMap spc).length = l.length * 2 := by
  induction l with
  | nil => rfl
  | cons s r ih => simp [spc, ih]; omega
theorem spc_set (l : List Sp) (t : Sp) (v : Int) : ((l ++ [t]).flatMap spc).set (l.length * 2 + 1) (.int .i64 v) = (l ++ [(t.1, v)]).flatMap spc := by
  rw [List.flatMap_append, List.flatMap_append, List.set_append_right _ _ (by rw [spc_len]; omega), spc_len, show l.length * 2 + 1 - l.length * 2 = 1 from by omega]
  rfl
theorem SOwn.spa {w : World} {base : Nat} {a : Option Addr} {n c : Nat} {l : List Sp} (h : SOwn w base (.slice a n c) l) : Spa w a l := by
  by_cases hl : l = []
  · exact .inl hl
  · have hp := List.length_pos_iff.mpr hl
    obtain ⟨g, cap, hv⟩ := own_some h hp
    simp only [Value.slice.injEq] at hv
    obtain ⟨rfl, rfl, rfl⟩ := hv
    refine .inr ⟨g, 0, rfl, fun i p hi => ?_⟩
    have hil : i < l.length := (List.getElem?_eq_some_iff.mp hi).1
    obtain ⟨q1, q2⟩ := spc_get l i p hi
    rw [Nat.zero_add]
    exact ⟨(World.ownsRow.cellAt h _ (by omega)).trans q1, (World.ownsRow.cellAt h _ (by omega)).trans q2⟩
theorem cell_two_new (w : World) (x y : Value) (t : TypeId) : ∀ j u, [x, y][j]? = some u → (w.alloc (.cells #[x, y] t)).cell? ((⟨w.heap.size, 0, none⟩ : Addr).add j) = some u := by
  intro j u hj
  match j, hj with
  | 0, hj => simp at hj; subst hj; simp [Addr.add]
  | 1, hj => simp at hj; subst hj; simp [Addr.add]
theorem grown_alloc (w : World) (o : Obj) (row : Option Nat) : w.grownBy (w.alloc o) row :=
  ⟨rfl, rfl, rfl, by simp, fun k hk _ => Below.heap_alloc w o k hk⟩
theorem grown_drewN (w : World) (n : Nat) (row : Option Nat) : w.grownBy (w.drewN n) row := ⟨rfl, rfl, rfl, Nat.le_refl _, fun _ _ _ => rfl⟩
theorem cell_two_at (w : World) (x y : Value) (t : TypeId) (n : Nat) (hn : n = w.heap.size) : ∀ j u, [x, y][j]? = some u → (w.alloc (.cells #[x, y] t)).cell? ((⟨n, 0, none⟩ : Addr).add j) = some u := by
  subst hn; exact cell_two_new _ _ _ _

theorem grown_set (w : World) (g i : Nat) (u : Value) : w.grownBy (w.setCell ⟨g, i, none⟩ u) (some g) :=
  ⟨rfl, rfl, rfl, by simp [World.setCell], fun k _ hne => Below.heap_setCell _ _ _ _ (fun e => hne (by rw [e]))⟩

def JoinPost (w : World) (base : Nat) (v : Value) (l : List Sp) (e : Ending) (w' : World) : Prop := ∃ v', e = .returned v' ∧ SOwn w' base v' l ∧ w.grownBy w' v.ownBlock

theorem SOwn.last {w : World} {base : Nat} {v : Value} {l : List Sp} {u : Sp} (h : SOwn w base v (l ++ [u])) : ∃ g cap, v = .slice (some ⟨g, 0, none⟩) (l.length + 1) cap ∧ base ≤ g ∧ g < w.heap.size ∧ w.cell? ⟨g, l.length * 2, none⟩ = some (.int .i64 u.1) ∧ w.cell? ⟨g, l.length * 2 + 1, none⟩ = some (.int .i64 u.2) ∧ (∀ j, w.frozen? ⟨g, j, none⟩ = false) ∧ ∀ x : Int, SOwn (w.setCell ⟨g, l.length * 2 + 1, none⟩ (.int .i64 x)) base v (l ++ [(u.1, x)]) := by
  obtain ⟨g, cap, hv⟩ := own_some h (by simp)
  have hlen : (l ++ [u]).length = l.length + 1 := by simp
  obtain ⟨q1, q2⟩ := spc_get (l ++ [u]) l.length u (by simp)
  have h' := h
  unfold SOwn at h'
  rw [hlen] at h' hv
  subst hv
  have hl := World.ownsRow.lt h' g rfl
  refine ⟨g, cap, rfl, hl.1, hl.2, (World.ownsRow.cellAt h' _ (by omega)).trans q1, (World.ownsRow.cellAt h' _ (by omega)).trans q2, fun j => World.ownsRow.frozenAt h' j, fun x => ?_⟩
  have := (World.ownsRow.stored h' (l.length * 2 + 1) (.int .i64 x)).1
  rw [spc_set] at this
  unfold SOwn
  rw [show (l ++ [(u.1, x)]).length = l.length + 1 from by simp]
  exact this

set_option maxHeartbeats 2000000 in
theorem join_nil (base : Nat) (v : Value) (f t : Int) (w : World) (h : SOwn w base v []) (hb : base ≤ w.heap.size) :
    Calls Tryz.prog 197 #[v, .agg #[.int .i64 f, .int .i64 t]] w (JoinPost w base v [(f, t)]) := by
  obtain ⟨i0, hi, hz0, hz1, hz2⟩ := info_parts Tryz.info_span
  obtain ⟨a, cap, hv⟩ := own_shape h
  have HO : Hid (∀ n, ((w.alloc (.cells #[.int .i64 f, .int .i64 t] 90)).drewN n).ownsRow base 90 2 v 0 []) := fun n => World.ownsRow.alloc h _
  have HG : Hid (∀ n, w.grownBy ((w.alloc (.cells #[.int .i64 f, .int .i64 t] 90)).drewN n) v.ownBlock) := fun n => grown_trans (grown_alloc _ _ _) (grown_drewN _ _ _)
  subst hv
  simp only [List.length_nil] at *
  clear h
  go_enter Tryz.func197, Tryz.ntmps197
  go_wp2_with fail
  go_quiet (fail)
  go_wp2_with (at_builtin; refine wpList_append_own_at _ rfl _ _ 32 rfl base 90 i0 (.agg #[.int .i64 0, .int .i64 0]) 2 16 Tryz.underlying32 hi hz0 hz1 hz2 rfl (by decide) _ _ _ rfl ((HO.out _).alloc _) ⟨w.heap.size + 1, 0, none⟩ 1 1 [.int .i64 f, .int .i64 t] rfl rfl ?c1 ?c2 ?c3 ?c4 ?c5 ?_)
  case c1 => exact cell_two_at _ _ _ _ _ (by simp)
  case c2 => intro x hx; simp at hx; rcases hx with rfl | rfl <;> rfl
  case c3 => unfold maxLen; omega
  case c4 => omega
  case c5 => simp; omega
  intro v' w5 hown5 hgrow5 _ _
  have HS : Hid (SOwn w5 base v' [(f, t)]) := hown5
  have HG5 := grown_trans (grown_trans (HG.out _) (grown_alloc _ _ _)) hgrow5
  clear hown5 hgrow5 HO HG
  go_wp2
  go_ret
  exact ⟨v', rfl, HS.out, HG5⟩

set_option maxHeartbeats 2000000 in
theorem join_far (base : Nat) (v : Value) (l : List Sp) (u1 u2 f t : Int) (w : World) (h : SOwn w base v (l ++ [(u1, u2)])) (hb : base ≤ w.heap.size) (hm : l.length ≤ 1048576) (hu : u2 < f) :
    Calls Tryz.prog 197 #[v, .agg #[.int .i64 f, .int .i64 t]] w (JoinPost w base v (l ++ [(u1, u2)] ++ [(f, t)])) := by
  obtain ⟨i0, hi, hz0, hz1, hz2⟩ := info_parts Tryz.info_span
  obtain ⟨g, cap, hv, hg1, hg2, k1, k2, _, _⟩ := h.last
  have hlen : (l ++ [(u1, u2)]).length = l.length + 1 := by simp
  have HO : Hid (∀ n, ((w.alloc (.cells #[.int .i64 f, .int .i64 t] 90)).drewN n).ownsRow base 90 2 v (l.length + 1) ((l ++ [(u1, u2)]).flatMap spc)) := fun n => by
    have h' := h
    unfold SOwn at h'
    rw [hlen] at h'
    exact World.ownsRow.alloc h' _
  have HG : Hid (∀ n, w.grownBy ((w.alloc (.cells #[.int .i64 f, .int .i64 t] 90)).drewN n) v.ownBlock) := fun n => grown_trans (grown_alloc _ _ _) (grown_drewN _ _ _)
  have b2 : (w.alloc (.cells #[.int .i64 f, .int .i64 t] 90)).cell? ⟨g, l.length * 2 + 1, none⟩ = some (.int .i64 u2) := cell_below k2 ((Below.refl _ _).alloc (Nat.le_refl _) _)
  have HL : Hid ((l ++ [(u1, u2)] ++ [(f, t)]).length = l.length + 1 + 1) := by unfold Hid; simp
  have HX : Hid ((l ++ [(u1, u2)] ++ [(f, t)]).flatMap spc = (l ++ [(u1, u2)]).flatMap spc ++ [.int .i64 f, .int .i64 t]) := by unfold Hid; rw [List.flatMap_append]; rfl
  unfold JoinPost SOwn
  rw [HL.out, HX.out]
  subst hv
  clear h k1 k2 hlen HL HX
  generalize (l ++ [(u1, u2)]).flatMap spc = X at *
  generalize l.length = m at *
  have hwm : IntKind.i64.wrap (((m + 1 : Nat) : Int) - 1) = m := by rw [IntKind.wrap_i64]; omega
  have hlt : (m : Int) < ((m + 1 : Nat) : Int) := by omega
  have hnz : (((m + 1 : Nat) : Int) == 0) = false := beq_false_of_ne (by omega)
  have hn1 : m + 1 ≤ 1048577 := by omega
  generalize m + 1 = n at *
  go_enter Tryz.func197, Tryz.ntmps197
  go_wp2_with fail
  go_quiet (fail)
  go_wp2_with (at_builtin; refine wpList_append_own_at _ rfl _ _ 32 rfl base 90 i0 (.agg #[.int .i64 0, .int .i64 0]) 2 16 Tryz.underlying32 hi hz0 hz1 hz2 rfl (by decide) _ _ _ rfl ((HO.out _).alloc _) ⟨w.heap.size + 1, 0, none⟩ 1 1 [.int .i64 f, .int .i64 t] rfl rfl ?c1 ?c2 ?c3 ?c4 ?c5 ?_)
  case c1 => exact cell_two_at _ _ _ _ _ (by simp)
  case c2 => intro x hx; simp at hx; rcases hx with rfl | rfl <;> rfl
  case c3 => unfold maxLen; omega
  case c4 => omega
  case c5 => simp; omega
  intro v' w5 hown5 hgrow5 _ _
  have HG5 := grown_trans (grown_trans (HG.out _) (grown_alloc _ _ _)) hgrow5
  have HS : Hid (w5.ownsRow base 90 2 v' (n + 1) (X ++ [.int .i64 f, .int .i64 t])) := hown5
  clear hown5 hgrow5 HO HG
  go_wp2
  go_ret
  exact ⟨v', rfl, HS.out, HG5⟩

set_option maxHeartbeats 2000000 in
theorem join_near (base : Nat) (v : Value) (l : List Sp) (u1 u2 f t : Int) (w : World) (h : SOwn w base v (l ++ [(u1, u2)])) (hm : l.length ≤ 1048576) (hu : f ≤ u2) :
    Calls Tryz.prog 197 #[v, .agg #[.int .i64 f, .int .i64 t]] w (JoinPost w base v (l ++ [(u1, max u2 t)])) := by
  have h0 : SOwn (w.alloc (.cells #[.int .i64 f, .int .i64 t] 90)) base v (l ++ [(u1, u2)]) := World.ownsRow.alloc h _
  obtain ⟨g, cap, hv, hg1, hg2, k1, k2, k3, k4⟩ := h0.last
  have hg : g < w.heap.size := by
    have := World.ownsRow.lt h g (by rw [hv]; rfl); exact this.2
  have k4' := k4 (max u2 t)
  have k3' := k3 (l.length * 2 + 1)
  have HS : Hid (SOwn ((w.alloc (.cells #[.int .i64 f, .int .i64 t] 90)).setCell ⟨g, l.length * 2 + 1, none⟩ (.int .i64 (max u2 t))) base v (l ++ [(u1, max u2 t)])) := k4'
  subst hv
  clear h h0 k4 k4' k3 k1
  generalize l ++ [(u1, max u2 t)] = L at *
  generalize l.length = m at *
  have hwm : IntKind.i64.wrap (((m + 1 : Nat) : Int) - 1) = m := by rw [IntKind.wrap_i64]; omega
  have hlt : (m : Int) < ((m + 1 : Nat) : Int) := by omega
  have hnz : (((m + 1 : Nat) : Int) == 0) = false := beq_false_of_ne (by omega)
  have hn1 : m + 1 ≤ 1048577 := by omega
  generalize m + 1 = n at *
  go_enter Tryz.func197, Tryz.ntmps197
  go_wp2_with fail
  go_quiet (fail)
  go_wp2
  go_region
  all_goals go_wp2
  · rw [show max u2 t = t from by omega] at HS
    go_ret
    exact ⟨_, rfl, HS.out, grown_trans (grown_trans (grown_alloc _ _ _) (grown_drewN _ _ _)) (grown_set _ _ _ _)⟩
  · rw [show max u2 t = u2 from by omega] at HS
    go_ret
    exact ⟨_, rfl, HS.out, grown_trans (grown_trans (grown_alloc _ _ _) (grown_drewN _ _ _)) (grown_set _ _ _ _)⟩

theorem join_any (base : Nat) (v : Value) (l : List Sp) (f t : Int) (w : World) (h : SOwn w base v l) (hb : base ≤ w.heap.size) (hm : l.length ≤ 1048576) :
    Calls Tryz.prog 197 #[v, .agg #[.int .i64 f, .int .i64 t]] w (JoinPost w base v (jo l (f, t))) := by
  by_cases hl : l = []
  · subst hl; rw [jo_nil]; exact join_nil base v f t w h hb
  · obtain ⟨l', u, rfl⟩ : ∃ l' u, l = l' ++ [u] := ⟨l.dropLast, l.getLast hl, (List.dropLast_concat_getLast hl).symm⟩
    obtain ⟨u1, u2⟩ := u
    have hm' : l'.length ≤ 1048576 := by simp at hm; omega
    by_cases hu : u2 < f
    · rw [jo_far _ _ _ hu]; exact join_far base v l' u1 u2 f t w h hb hm' hu
    · rw [jo_near _ _ _ (by show f ≤ u2; omega)]; exact join_near base v l' u1 u2 f t w h hm' (by omega)

end Go.Proofs.YtillgoegiplmkaaGreatDoor.C

namespace Go.Proofs.YtillgoegiplmkaaGreatDoor.C
open Go.RowKit

def lenV : Value → Nat
  | .slice _ n _ => n
  | _ => 0

theorem SOwn.drewN {w : World} {base : Nat} {v : Value} {l : List Sp} (h : SOwn w base v l) (n : Nat) : SOwn (w.drewN n) base v l := h
theorem SOwn.lt {w : World} {base : Nat} {v : Value} {l : List Sp} (h : SOwn w base v l) : ∀ k, v.ownBlock = some k → base ≤ k ∧ k < w.heap.size := World.ownsRow.lt h
theorem SOwn.shape {w : World} {base : Nat} {v : Value} {l : List Sp} (h : SOwn w base v l) : ∃ a c, v = .slice a l.length c := own_shape h
theorem SOwn.below {w w' : World} {base : Nat} {v : Value} {l : List Sp} (h : SOwn w base v l) (hb : Below w.heap.size w w') : SOwn w' base v l := by
  refine ⟨h.1, ?_⟩
  rcases h.2 with hn | ⟨g, cap, cur, hv, h1, h2, h3⟩
  · exact .inl hn
  · have hg : g < w.heap.size := (h.lt g (by rw [hv]; rfl)).2
    exact .inr ⟨g, cap, cur, hv, h1, (hb.block g hg).trans h2, h3⟩
theorem SOwn.base {w : World} {base base' : Nat} {v : Value} {l : List Sp} (h : SOwn w base v l) (hb : base' ≤ base) : SOwn w base' v l := by
  refine ⟨h.1, ?_⟩
  rcases h.2 with hn | ⟨g, cap, cur, hv, h1, h2, h3⟩
  · exact .inl hn
  · exact .inr ⟨g, cap, cur, hv, by omega, h2, h3⟩

theorem Spa.tail {w : World} {g off : Nat} {p : Sp} {r : List Sp} (h : Spa w (some ⟨g, off, none⟩) (p :: r)) : Spa w (some ⟨g, off + 2, none⟩) r := by
  rcases h with h | ⟨g', off', ha, h⟩
  · cases h
  · simp only [Option.some.injEq, Addr.mk.injEq, and_true] at ha
    obtain ⟨rfl, rfl⟩ := ha
    refine .inr ⟨g, off + 2, rfl, fun i q hq => ?_⟩
    have := h (i + 1) q (by simpa using hq)
    rw [show off + (i + 1) * 2 = off + 2 + i * 2 from by omega] at this
    exact this
theorem Spa.tail' {w : World} {g off c : Nat} {p : Sp} {r : List Sp} (h : Spa w (some ⟨g, off, none⟩) (p :: r)) (hc : r.length + 1 ≤ c) : Spa w (if c = 1 then some ⟨g, off, none⟩ else some ⟨g, off + 2, none⟩) r := by
  split
  · exact .inl (List.eq_nil_of_length_eq_zero (by omega))
  · exact h.tail
theorem Spa.head {w : World} {a : Option Addr} {p : Sp} {r : List Sp} (h : Spa w a (p :: r)) : ∃ g off, a = some ⟨g, off, none⟩ ∧ w.cell? ⟨g, off, none⟩ = some (.int .i64 p.1) ∧ w.cell? ⟨g, off + 1, none⟩ = some (.int .i64 p.2) := by
  obtain ⟨g, off, ha, h1, h2⟩ := h.at (k := 0) (p := p) rfl
  exact ⟨g, off, ha, by simpa using h1, by simpa using h2⟩

def MergePost (w : World) (l m : List Sp) (e : Ending) (w' : World) : Prop := ∃ v u, e = .returned v ∧ SOwn w' w.heap.size v u ∧ Uni l m u ∧ Below w.heap.size w w'

theorem mg_len {a b out ra rb : List Sp} (h : Mg a b out ra rb) (hm : a.length + b.length ≤ 1048576) : out.length ≤ 1048576 := by have := h.len; omega

set_option maxRecDepth 100000 in
set_option maxHeartbeats 4000000 in
theorem merge_any (a b : Option Addr) (ca cb : Nat) (l m : List Sp) (w : World) (h : Spa w a l) (h' : Spa w b m) (hl : Rt 0 l) (hr : Rt 0 m) (hm : l.length + m.length ≤ 1048576) (hca : l.length ≤ ca ∧ ca ≤ 9223372036854775807) (hcb : m.length ≤ cb ∧ cb ≤ 9223372036854775807) :
    Calls Tryz.prog 179 #[.slice a l.length ca, .slice b m.length cb] w (MergePost w l m) := by
  obtain ⟨i0, hi, hz0, hz1, hz2⟩ := info_parts Tryz.info_span
  have HM0 : Hid (Mg l m [] l m) := Mg.start hl hr
  have HA0 : Hid (Spa w a l ∧ Spa w b m) := ⟨h, h'⟩
  have HLM : Hid (l.length + m.length ≤ 1048576) := hm
  have hl1 : l.length ≤ 1048576 := by omega
  have hm1 : m.length ≤ 1048576 := by omega
  clear h h' hl hr
  go_enter Tryz.func179, Tryz.ntmps179
  go_wp2_with (at_make; refine wpList_make_own _ rfl _ _ 32 rfl w.heap.size 90 i0 (.agg #[.int .i64 0, .int .i64 0]) 2 Tryz.underlying32 hi hz0 hz1 .i64 .i64 _ (l.length + m.length) rfl rfl (by simp) (by rw [hz2]; omega) (by unfold maxLen; omega) (Nat.le_refl _) ?_; intro w1 hown1 hgrow1)
  have HB1 : Hid (Below w.heap.size w w1) := (Below.refl _ _).grown hgrow1 (Nat.le_refl _) (by intro j hj; cases hj)
  have HO1 : Hid (SOwn w1 w.heap.size (.slice (some ⟨w.heap.size, 0, none⟩) 0 (l.length + m.length)) []) := hown1
  clear hown1 hgrow1
  go_loopw [0, 1, 5] (fun x y v wr => ∃ (ra rb out : List Sp) (a' b' : Option Addr) (ca' cb' : Nat), x = .slice a' ra.length ca' ∧ y = .slice b' rb.length cb' ∧ Spa w a' ra ∧ Spa w b' rb ∧ (ra.length ≤ ca' ∧ ca' ≤ 9223372036854775807) ∧ (rb.length ≤ cb' ∧ cb' ≤ 9223372036854775807) ∧ SOwn wr w.heap.size v out ∧ Mg l m out ra rb ∧ Below w.heap.size w wr) (fun x y _ _ => lenV x + lenV y)
  case atStart => exact ⟨l, m, [], a, b, ca, cb, rfl, rfl, HA0.out.1, HA0.out.2, hca, hcb, HO1.out, HM0.out, HB1.out⟩
  case round =>
    obtain ⟨ra, rb, out, a', b', ca', cb', rfl, rfl, hsa, hsb, hka, hkb, hso, hmg, hbe⟩ := hrel
    have HMG : Hid (Mg l m out ra rb) := hmg
    have HSA : Hid (Spa w a' ra) := hsa
    have HSB : Hid (Spa w b' rb) := hsb
    have HO : Hid (SOwn wr w.heap.size u5 out) := hso
    have HB : Hid (Below w.heap.size w wr) := hbe
    have hol := mg_len hmg HLM.out
    have hle := hmg.len
    clear hmg hsa hsb hso hbe HM0 HA0 HO1 HB1
    cases ra with
    | nil =>
      cases rb with
      | nil =>
        simp only [List.length_nil] at *
        go_wp2
        go_ret
        exact ⟨_, out, rfl, HO.out, HMG.out.done, HB.out⟩
      | cons q rb =>
        obtain ⟨g, off, rfl, d1, d2⟩ := (HSB.out.below HB.out).head
        have HT := HSB.out.tail' (c := cb') (by simpa using hkb.1)
        obtain ⟨q1, q2⟩ := q
        have HMG2 : Hid (Mg l m (jo out (q1, q2)) rb []) := HMG.out.swap.step (fun _ h => by cases h)
        simp only [List.length_nil, List.length_cons] at *
        clear HMG
        generalize hn : rb.length + 1 = n at *
        have hn0 : (0 : Int) < (n : Int) := by omega
        have hn1 : (1 : Int) ≤ (n : Int) := by omega
        have HN : Hid (rb.length = n - 1) := by unfold Hid; omega
        go_wp2_with fail
        go_quiet (fail)
        go_wp2_with fail
        refine (join_any _ _ out q1 q2 _ (HO.out.drewN _) (by have := HB.out.size; exact this) (by omega)).mono ?_
        rintro e w2 ⟨v2, rfl, hs2, hg2⟩
        have HB2 : Hid (Below w.heap.size w w2) := (below_drewN HB.out _).grown hg2 HB.out.size (fun j hj => (HO.out.lt j hj).1)
        have HO2 : Hid (SOwn w2 w.heap.size v2 (jo out (q1, q2))) := hs2
        clear hs2 hg2 HO HB
        go_wp2
        go_roundw
        case rel => exact ⟨rb, [], _, _, a', cb' - 1, ca', by rw [HN.out], rfl, HT, .inl rfl, by have := HN.out; omega, hka, HO2.out, HMG2.out, HB2.out⟩
        case measure => simp [lenV]; try omega
    | cons p ra =>
      cases rb with
      | nil =>
        obtain ⟨g, off, rfl, d1, d2⟩ := (HSA.out.below HB.out).head
        have HT := HSA.out.tail' (c := ca') (by simpa using hka.1)
        obtain ⟨p1, p2⟩ := p
        have HMG2 : Hid (Mg l m (jo out (p1, p2)) ra []) := HMG.out.step (fun _ h => by cases h)
        simp only [List.length_nil, List.length_cons] at *
        clear HMG
        generalize hn : ra.length + 1 = n at *
        have hn0 : (0 : Int) < (n : Int) := by omega
        have hn1 : (1 : Int) ≤ (n : Int) := by omega
        have hnz : ((n : Int) == 0) = false := beq_false_of_ne (by omega)
        have HN : Hid (ra.length = n - 1) := by unfold Hid; omega
        go_wp2_with fail
        go_quiet (fail)
        go_wp2_with fail
        refine (join_any _ _ out p1 p2 _ (HO.out.drewN _) (by have := HB.out.size; exact this) (by omega)).mono ?_
        rintro e w2 ⟨v2, rfl, hs2, hg2⟩
        have HB2 : Hid (Below w.heap.size w w2) := (below_drewN HB.out _).grown hg2 HB.out.size (fun j hj => (HO.out.lt j hj).1)
        have HO2 : Hid (SOwn w2 w.heap.size v2 (jo out (p1, p2))) := hs2
        clear hs2 hg2 HO HB
        go_wp2
        go_roundw
        case rel => exact ⟨ra, [], _, _, b', ca' - 1, cb', by rw [HN.out], rfl, HT, .inl rfl, by have := HN.out; omega, hkb, HO2.out, HMG2.out, HB2.out⟩
        case measure => simp [lenV]; try omega
      | cons q rb =>
        obtain ⟨g, off, rfl, d1, d2⟩ := (HSA.out.below HB.out).head
        obtain ⟨g', off', rfl, d1', d2'⟩ := (HSB.out.below HB.out).head
        have HT := HSA.out.tail' (c := ca') (by simpa using hka.1)
        have HT' := HSB.out.tail' (c := cb') (by simpa using hkb.1)
        obtain ⟨p1, p2⟩ := p
        obtain ⟨q1, q2⟩ := q
        have HP : Hid (p1 ≤ q1 → ∀ t ∈ (q1, q2) :: rb, p1 ≤ t.1) := fun h t ht => by
          rcases List.mem_cons.mp ht with rfl | ht
          · exact h
          · have := HMG.out.okB.next t ht; simp only at this; omega
        have HP' : Hid (q1 ≤ p1 → ∀ t ∈ (p1, p2) :: ra, q1 ≤ t.1) := fun h t ht => by
          rcases List.mem_cons.mp ht with rfl | ht
          · exact h
          · have := HMG.out.okA.next t ht; simp only at this; omega
        simp only at d1 d2 d1' d2'
        simp only [List.length_cons] at *
        by_cases hc : q1 < p1
        · have HMG2 : Hid (Mg l m (jo out (q1, q2)) rb ((p1, p2) :: ra)) := HMG.out.swap.step (HP'.out (by omega))
          clear HMG HP HP'
          generalize hn : ra.length + 1 = n at *
          generalize hk : rb.length + 1 = k at *
          have hn0 : (0 : Int) < (n : Int) := by omega
          have hn1 : (1 : Int) ≤ (n : Int) := by omega
          have hk0 : (0 : Int) < (k : Int) := by omega
          have hkd : decide (0 < k) = true := decide_eq_true (by omega)
          have hk1 : (1 : Int) ≤ (k : Int) := by omega
          have hnz : ((n : Int) == 0) = false := beq_false_of_ne (by omega)
          have HN : Hid (ra.length + 1 = n) := hn
          have HK : Hid (rb.length = k - 1) := by unfold Hid; omega
          go_wp2_with fail
          go_quiet (fail)
          go_wp2_with fail
          refine (join_any _ _ out q1 q2 _ (HO.out.drewN _) (by have := HB.out.size; exact this) (by omega)).mono ?_
          rintro e w2 ⟨v2, rfl, hs2, hg2⟩
          have HB2 : Hid (Below w.heap.size w w2) := (below_drewN HB.out _).grown hg2 HB.out.size (fun j hj => (HO.out.lt j hj).1)
          have HO2 : Hid (SOwn w2 w.heap.size v2 (jo out (q1, q2))) := hs2
          clear hs2 hg2 HO HB
          go_wp2
          go_roundw
          case rel => exact ⟨rb, (p1, p2) :: ra, _, _, _, cb' - 1, ca', by rw [HK.out], by rw [← HN.out]; rfl, HT', HSA.out, by have := HK.out; omega, by have := HN.out; simp; omega, HO2.out, HMG2.out, HB2.out⟩
          case measure => simp [lenV]; try omega
        · have HMG2 : Hid (Mg l m (jo out (p1, p2)) ra ((q1, q2) :: rb)) := HMG.out.step (HP.out (by omega))
          clear HMG HP HP'
          generalize hn : ra.length + 1 = n at *
          generalize hk : rb.length + 1 = k at *
          have hn0 : (0 : Int) < (n : Int) := by omega
          have hn1 : (1 : Int) ≤ (n : Int) := by omega
          have hk0 : (0 : Int) < (k : Int) := by omega
          have hkd : decide (0 < k) = true := decide_eq_true (by omega)
          have hk1 : (1 : Int) ≤ (k : Int) := by omega
          have hnz : ((n : Int) == 0) = false := beq_false_of_ne (by omega)
          have HN : Hid (ra.length = n - 1) := by unfold Hid; omega
          have HK : Hid (rb.length + 1 = k) := hk
          go_wp2_with fail
          go_quiet (fail)
          go_wp2_with fail
          refine (join_any _ _ out p1 p2 _ (HO.out.drewN _) (by have := HB.out.size; exact this) (by omega)).mono ?_
          rintro e w2 ⟨v2, rfl, hs2, hg2⟩
          have HB2 : Hid (Below w.heap.size w w2) := (below_drewN HB.out _).grown hg2 HB.out.size (fun j hj => (HO.out.lt j hj).1)
          have HO2 : Hid (SOwn w2 w.heap.size v2 (jo out (p1, p2))) := hs2
          clear hs2 hg2 HO HB
          go_wp2
          go_roundw
          case rel => exact ⟨ra, (q1, q2) :: rb, _, _, _, ca' - 1, cb', by rw [HN.out], by rw [← HK.out]; rfl, HT, HSB.out, by have := HN.out; omega, by have := HK.out; simp; omega, HO2.out, HMG2.out, HB2.out⟩
          case measure => simp [lenV]; try omega

end Go.Proofs.YtillgoegiplmkaaGreatDoor.C

namespace Go.Proofs.YtillgoegiplmkaaGreatDoor.C
open Go.RowKit

def eqB (l m : List Sp) : Bool := decide (l = m)

end Go.Proofs.YtillgoegiplmkaaGreatDoor.C

namespace Go.Proofs.YtillgoegiplmkaaGreatDoor.C
open Go.RowKit

/-- A value that holds a list of spans. -/
structure Ls (w : World) (v : Value) (l : List Sp) : Prop where
  shape : ∃ a c, v = .slice a l.length c ∧ Spa w a l ∧ l.length ≤ c ∧ c ≤ 9223372036854775807
  small : l.length ≤ 9223372036854775807
theorem Ls.below {w w' : World} {v : Value} {l : List Sp} (h : Ls w v l) (hb : Below w.heap.size w w') : Ls w' v l := by
  obtain ⟨a, c, hv, hs, h1, h2⟩ := h.shape
  exact ⟨⟨a, c, hv, hs.below hb, h1, h2⟩, h.small⟩
theorem SOwn.ls {w : World} {base : Nat} {v : Value} {l : List Sp} (h : SOwn w base v l) (hm : l.length ≤ 9223372036854775807) : Ls w v l := by
  obtain ⟨a, c, rfl⟩ := h.shape
  refine ⟨⟨a, c, rfl, h.spa, ?_⟩, hm⟩
  rcases h.2 with ⟨hv, hn⟩ | ⟨g, cap, cur, hv, _, _, h1, h2, _⟩
  · simp only [Value.slice.injEq] at hv; obtain ⟨_, _, rfl⟩ := hv; omega
  · simp only [Value.slice.injEq] at hv; obtain ⟨_, _, rfl⟩ := hv; unfold maxLen at h2; omega
theorem Ls.nil (w : World) : Ls w (.slice none 0 0) [] := ⟨⟨none, 0, rfl, .inl rfl, by simp, by omega⟩, by simp⟩
theorem SOwn.nil (w : World) (base : Nat) : SOwn w base (.slice none 0 0) [] := World.ownsRow_nil _ _ _ _

theorem right_ls {v : Value} {l : List Sp} {w : World} (h : Ls w v l) : Calls Tryz.prog 160 #[v] w fun e w' => e = .returned (.bool (setB l)) ∧ Below w.heap.size w w' := by
  obtain ⟨a, c, rfl, hs, _, _⟩ := h.shape; exact right_any a c l w hs h.small
theorem size_ls {v : Value} {l : List Sp} {w : World} (h : Ls w v l) : Calls Tryz.prog 159 #[v] w fun e w' => e = .returned (.int .i64 (szB l)) ∧ Below w.heap.size w w' := by
  obtain ⟨a, c, rfl, hs, _, _⟩ := h.shape; exact size_any a c l w hs h.small
/-- What Union answers. -/
def UR (l m u : List Sp) (er : Int) : Prop := (¬ (IsSet l ∧ IsSet m) ∧ er = 30 ∧ u = []) ∨ (IsSet l ∧ IsSet m ∧ ∃ U, Uni l m U ∧ ((U.length ≤ 2000 ∧ er = 0 ∧ u = U) ∨ (2000 < U.length ∧ er = 3 ∧ u = [])))
theorem UR.len {l m u : List Sp} {er : Int} (h : UR l m u er) : u.length ≤ 2000 := by
  rcases h with ⟨_, _, rfl⟩ | ⟨_, _, U, _, ⟨h, _, rfl⟩ | ⟨_, _, rfl⟩⟩
  · simp
  · exact h
  · simp
theorem UR.errs {l m u : List Sp} {er : Int} (h : UR l m u er) : er = 0 ∨ er = 3 ∨ er = 30 := by
  rcases h with ⟨_, h, _⟩ | ⟨_, _, U, _, ⟨_, h, _⟩ | ⟨_, h, _⟩⟩ <;> omega
theorem UR.ok {l m u : List Sp} {er : Int} (h : UR l m u er) (he : er = 0) : IsSet l ∧ IsSet m ∧ Uni l m u ∧ IsSet u := by
  rcases h with ⟨_, h, _⟩ | ⟨h1, h2, U, h3, ⟨h4, _, rfl⟩ | ⟨_, h, _⟩⟩
  · omega
  · exact ⟨h1, h2, h3, h4, h3.rt⟩
  · omega

def UnionPost (l m : List Sp) (w : World) (e : Ending) (w' : World) : Prop := ∃ v u er, e = .returned (.tuple #[v, .int .i64 er]) ∧ SOwn w' w.heap.size v u ∧ UR l m u er ∧ Below w.heap.size w w'

set_option maxHeartbeats 2000000 in
theorem union_any {v v' : Value} {l m : List Sp} {w : World} (h : Ls w v l) (h' : Ls w v' m) : Calls Tryz.prog 158 #[v, v'] w (UnionPost l m w) := by
  obtain ⟨a, c, rfl, hs, hc⟩ := h.shape
  obtain ⟨a', c', rfl, hs', hc'⟩ := h'.shape
  have HL : Hid (Ls w (.slice a l.length c) l) := h
  have HL' : Hid (Ls w (.slice a' m.length c') m) := h'
  have H1 : Hid (Spa w a l) := hs
  have H2 : Hid (Spa w a' m) := hs'
  have hR := right_ls h
  have HI : Hid (setB l = true ↔ IsSet l) := setB_iff
  have HI' : Hid (setB m = true ↔ IsSet m) := setB_iff
  have hR' : Hid (∀ W, Below w.heap.size w W → Calls Tryz.prog 160 #[.slice a' m.length c'] W fun e w' => e = .returned (.bool (setB m)) ∧ Below W.heap.size W w') := fun W hW => right_ls (h'.below hW)
  clear h h' hs hs'
  generalize setB l = V at *
  generalize setB m = V' at *
  go_enter Tryz.func158, Tryz.ntmps158
  go_wp2_with fail
  refine hR.mono ?_
  rintro e w1 ⟨rfl, hb1⟩
  clear hR
  have HB1 : Hid (Below w.heap.size w w1) := hb1
  clear hb1
  cases V with
  | false =>
    have HN : Hid (¬ IsSet l) := fun h => by have := HI.out.mpr h; cases this
    clear HI
    go_wp2
    go_ret2
    exact ⟨_, [], 30, rfl, SOwn.nil _ _, .inl ⟨fun h => HN.out h.1, rfl, rfl⟩, HB1.out⟩
  | true =>
    have HQ : Hid (IsSet l) := HI.out.mp rfl
    clear HI
    go_wp2_with fail
    refine (hR'.out w1 HB1.out).mono ?_
    rintro e w2 ⟨rfl, hb2⟩
    clear hR'
    have HB2 : Hid (Below w.heap.size w w2) := HB1.out.trans (hb2.mono HB1.out.size)
    clear hb2 HB1
    cases V' with
    | false =>
      have HN : Hid (¬ IsSet m) := fun h => by have := HI'.out.mpr h; cases this
      clear HI'
      go_wp2
      go_ret2
      exact ⟨_, [], 30, rfl, SOwn.nil _ _, .inl ⟨fun h => HN.out h.2, rfl, rfl⟩, HB2.out⟩
    | true =>
      have HQ' : Hid (IsSet m) := HI'.out.mp rfl
      clear HI'
      go_wp2_with fail
      refine (merge_any a a' c c' l m w2 (H1.out.below HB2.out) (H2.out.below HB2.out) HQ.out.2 HQ'.out.2 (by have := HQ.out.1; have := HQ'.out.1; omega) hc hc').mono ?_
      rintro e w3 ⟨v3, U, rfl, hs3, hu3, hb3⟩
      obtain ⟨a3, c3, rfl⟩ := hs3.shape
      have hlen : U.length ≤ 1048576 := by have := hu3.len; have := HQ.out.1; have := HQ'.out.1; omega
      have HB3 : Hid (Below w.heap.size w w3) := HB2.out.trans (hb3.mono HB2.out.size)
      have HS3 : Hid (SOwn w3 w.heap.size (.slice a3 U.length c3) U) := hs3.base HB2.out.size
      have HU3 : Hid (Uni l m U) := hu3
      have hbd := bounded_any a3 U.length c3 w3 hlen
      clear hs3 hu3 hb3 HB2
      by_cases hle : U.length ≤ 2000
      · rw [if_pos hle] at hbd
        go_wp2_with fail
        refine hbd.mono ?_
        rintro e w4 ⟨rfl, rfl⟩
        go_wp2
        go_ret2
        exact ⟨_, U, 0, rfl, HS3.out, .inr ⟨HQ.out, HQ'.out, U, HU3.out, .inl ⟨hle, rfl, rfl⟩⟩, HB3.out⟩
      · rw [if_neg hle] at hbd
        go_wp2_with fail
        refine hbd.mono ?_
        rintro e w4 ⟨rfl, rfl⟩
        go_wp2
        go_ret2
        exact ⟨_, [], 3, rfl, SOwn.nil _ _, .inr ⟨HQ.out, HQ'.out, U, HU3.out, .inr ⟨by omega, rfl, rfl⟩⟩, HB3.out⟩

/-- What Add answers. -/
def AR (l : List Sp) (s : Sp) (u : List Sp) (n er : Int) : Prop := UR l [s] u er ∧ ((er = 0 ∧ n = siz u - siz l) ∨ (er ≠ 0 ∧ n = 0))
theorem szB_set {l : List Sp} (h : IsSet l) : szB l = siz l := by unfold szB; rw [if_pos (setB_iff.mpr h)]

def AddPost (l : List Sp) (s : Sp) (w : World) (e : Ending) (w' : World) : Prop := ∃ v u n er, e = .returned (.tuple #[v, .int .i64 n, .int .i64 er]) ∧ SOwn w' w.heap.size v u ∧ AR l s u n er ∧ Below w.heap.size w w'

theorem ls_box (w : World) (f t : Int) (g : Nat) (hg : g = w.heap.size) : Ls (w.alloc (.cells #[.int .i64 f, .int .i64 t] 90)) (.slice (some ⟨g, 0, none⟩) 1 1) [(f, t)] := by
  subst hg
  refine ⟨⟨_, 1, rfl, .inr ⟨w.heap.size, 0, rfl, fun i p hp => ?_⟩, by simp, by omega⟩, by simp⟩
  cases i with
  | zero => simp at hp; subst hp; exact ⟨by simp, by simp⟩
  | succ i => simp at hp

set_option maxHeartbeats 2000000 in
theorem add_any {v : Value} {l : List Sp} {w : World} (f t : Int) (h : Ls w v l) : Calls Tryz.prog 130 #[v, .agg #[.int .i64 f, .int .i64 t]] w (AddPost l (f, t) w) := by
  have HL : Hid (Ls w v l) := h
  obtain ⟨a, c, rfl, _⟩ := h.shape
  have hb0 : Below w.heap.size w ((w.alloc (.cells #[.int .i64 f, .int .i64 t] 90)).alloc (.cells #[.int .i64 f, .int .i64 t] 90)) := ((Below.refl _ _).alloc (Nat.le_refl _) _).alloc (by simp) _
  have hU := union_any (h.below hb0) (ls_box (w.alloc (.cells #[.int .i64 f, .int .i64 t] 90)) f t (w.heap.size + 1) (by simp))
  have HB0 : Hid (Below w.heap.size w ((w.alloc (.cells #[.int .i64 f, .int .i64 t] 90)).alloc (.cells #[.int .i64 f, .int .i64 t] 90))) := hb0
  clear h hb0
  go_enter Tryz.func130, Tryz.ntmps130
  go_wp2_with fail
  refine hU.mono ?_
  rintro e w1 ⟨v1, u, er, rfl, hs1, hur, hb1⟩
  obtain ⟨a1, c1, rfl⟩ := hs1.shape
  have HB1 : Hid (Below w.heap.size w w1) := HB0.out.trans (hb1.mono HB0.out.size)
  have HS1 : Hid (SOwn w1 w.heap.size (.slice a1 u.length c1) u) := hs1.base HB0.out.size
  have HU : Hid (UR l [(f, t)] u er) := hur
  clear hU hb1 hs1 hur HB0
  have her := HU.out.errs
  by_cases he : er = 0
  · subst he
    obtain ⟨g1, g2, g3, g4⟩ := HU.out.ok rfl
    have hz := size_ls (HS1.out.ls (by have := g4.1; omega))
    rw [szB_set g4] at hz
    have q1 := siz_pos g4.2
    have q2 := siz_most g4.2 (by omega)
    have q3 := siz_pos g1.2
    have q4 := siz_most g1.2 (by omega)
    have HZ' : Hid (∀ W, Below w.heap.size w W → Calls Tryz.prog 159 #[.slice a l.length c] W fun e w' => e = .returned (.int .i64 (siz l)) ∧ Below W.heap.size W w') := fun W hW => by
      have := size_ls (HL.out.below hW); rw [szB_set g1] at this; exact this
    clear g1 g2 g3 g4 her
    have HN : Hid (∀ n, n = siz u - siz l → AR l (f, t) u n 0) := fun n hn => ⟨HU.out, .inl ⟨rfl, hn⟩⟩
    generalize siz u = x at *
    generalize siz l = y at *
    go_wp2_with fail
    refine hz.mono ?_
    rintro e w2 ⟨rfl, hb2⟩
    have HB2 : Hid (Below w.heap.size w w2) := HB1.out.trans (hb2.mono HB1.out.size)
    have HS2 : Hid (SOwn w2 w.heap.size (.slice a1 u.length c1) u) := HS1.out.below hb2
    clear hz hb2 HB1 HS1
    go_wp2_with fail
    refine (HZ'.out w2 HB2.out).mono ?_
    rintro e w3 ⟨rfl, hb3⟩
    have HB3 : Hid (Below w.heap.size w w3) := HB2.out.trans (hb3.mono HB2.out.size)
    have HS3 : Hid (SOwn w3 w.heap.size (.slice a1 u.length c1) u) := HS2.out.below hb3
    clear HZ' hb3 HB2 HS2
    go_wp2
    go_ret3
    exact ⟨_, u, _, 0, rfl, HS3.out, HN.out _ rfl, HB3.out⟩
  · go_wp2
    go_ret3
    have hu0 : u = [] := by
      rcases HU.out with ⟨_, _, h⟩ | ⟨_, _, U, _, ⟨_, h, _⟩ | ⟨_, _, h⟩⟩
      · exact h
      · exact absurd h he
      · exact h
    subst hu0
    exact ⟨_, [], 0, er, rfl, SOwn.nil _ _, ⟨HU.out, .inr ⟨he, rfl⟩⟩, HB1.out⟩

end Go.Proofs.YtillgoegiplmkaaGreatDoor.C

namespace Go.Proofs.YtillgoegiplmkaaGreatDoor.C
open Go.RowKit

/-- Where the next span may begin. -/
def lsx (l : List Sp) (k : Nat) : Int := match k with
  | 0 => 0
  | k + 1 => (l.getD k (0, 0)).2 + 1

end Go.Proofs.YtillgoegiplmkaaGreatDoor.C
