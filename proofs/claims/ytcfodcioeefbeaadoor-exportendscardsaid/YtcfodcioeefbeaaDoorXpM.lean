import Derived.Test.YtcfodcioeefbeaaDoorXpL
namespace Go.Proofs.YtcfodcioeefbeaaDoor.X
open Go.RowKit Go.Maps
set_option linter.unusedVariables false
set_option linter.unusedSimpArgs false

/-! ## The law's world: an export, a queue, check numbers -/
def cks (Q : List (Sg × Value)) : List Int := (Q.map fun y => y.1.chk).filter fun c => decide (0 < c)
theorem cks_snoc (Q : List (Sg × Value)) (y : Sg × Value) : cks (Q ++ [y]) = cks Q ++ (if 0 < y.1.chk then [y.1.chk] else []) := by
  unfold cks
  rw [List.map_append, List.filter_append]
  congr 1
  by_cases h : 0 < y.1.chk
  · rw [if_pos h, List.map_cons, List.map_nil, List.filter_cons_of_pos (by simpa using h), List.filter_nil]
  · rw [if_neg h, List.map_cons, List.map_nil, List.filter_cons_of_neg (by simpa using h), List.filter_nil]
def inR (L : List Int) : List Value := L.map (Value.int .i64)
structure EI (N0 : Nat) (w0 : World) (e m rm : Nat) (s : Xs) (O : List Oc) (bs : List Int) (qv : Value) (Q : List (Sg × Value)) (cv : Value) (L : List Int) (W : World) : Prop where
  low : Below N0 w0 W
  n0 : N0 ≤ W.heap.size
  xm : ∃ c, Xm W e m rm c s O
  xf : ∀ g, XF e m O g → N0 ≤ g
  by' : W.ownsRow N0 5 1 s.bv bs.length (bs.map (Value.int .u8))
  row : W.ownsRow N0 45 14 qv Q.length (Q.flatMap sgL)
  crow : W.ownsRow N0 3 1 cv L.length (inR L)
section
variable {N0 : Nat} {w0 W W' : World} {e m rm : Nat} {s s' : Xs} {O O' : List Oc} {bs : List Int} {qv cv : Value} {Q : List (Sg × Value)} {L : List Int}
theorem EI.below (h : EI N0 w0 e m rm s O bs qv Q cv L W) (hb : Below W.heap.size W W') : EI N0 w0 e m rm s O bs qv Q cv L W' := by
  obtain ⟨c, hx⟩ := h.xm
  exact ⟨h.low.trans (hb.mono h.n0), Nat.le_trans h.n0 hb.size, ⟨c, hx.below hb⟩, h.xf, own_at h.by' (fun g hg => hb.block g (World.ownsRow.lt h.by' g hg).2), own_at h.row (fun g hg => hb.block g (World.ownsRow.lt h.row g hg).2), own_at h.crow (fun g hg => hb.block g (World.ownsRow.lt h.crow g hg).2)⟩
/-- A call on the export. -/
theorem EI.call (h : EI N0 w0 e m rm s O bs qv Q cv L W) (hx : ∃ c, Xm W' e m rm c s' O') (hf : ∀ g, XF e m O' g → XF e m O g) (hb : s'.bv = s.bv) (hk : Kl (XF e m O) W W') : EI N0 w0 e m rm s' O' bs qv Q cv L W' := by
  obtain ⟨c, hx0⟩ := h.xm
  refine ⟨h.low.trans ⟨hk.os, hk.tape, hk.output, hk.size, fun g hg => hk.block g (Nat.lt_of_lt_of_le hg h.n0) (fun q => by have := h.xf g q; omega)⟩, Nat.le_trans h.n0 hk.size, hx, fun g hg => h.xf g (hf g hg), ?_, ?_, ?_⟩
  · rw [hb]
    exact own_at h.by' (fun g hg => hk.block g (World.ownsRow.lt h.by' g hg).2 (fun q => hx0.row h.by' (by decide) (by decide) hg q))
  · exact own_at h.row (fun g hg => hk.block g (World.ownsRow.lt h.row g hg).2 (fun q => hx0.row h.row (by decide) (by decide) hg q))
  · exact own_at h.crow (fun g hg => hk.block g (World.ownsRow.lt h.crow g hg).2 (fun q => hx0.row h.crow (by decide) (by decide) hg q))
/-- The numbers' row has grown. -/
theorem EI.pushC (h : EI N0 w0 e m rm s O bs qv Q cv L W) {cv' : Value} {L' : List Int} (hg : W.grownBy W' cv.ownBlock) (hr : W'.ownsRow N0 3 1 cv' L'.length (inR L')) : EI N0 w0 e m rm s O bs qv Q cv' L' W' := by
  obtain ⟨c, hx0⟩ := h.xm
  have hk : Kl (fun g => cv.ownBlock = some g) W W' := ⟨hg.os, hg.tape, hg.output, hg.size, fun y hl hn => hg.block y hl (fun q => hn q.symm)⟩
  refine ⟨h.low.trans ⟨hk.os, hk.tape, hk.output, hk.size, fun g hg => hk.block g (Nat.lt_of_lt_of_le hg h.n0) (fun q => by have := (World.ownsRow.lt h.crow g q).1; omega)⟩, Nat.le_trans h.n0 hk.size, ⟨c, hx0.keep hk (fun g hg q => hx0.row h.crow (by decide) (by decide) q hg)⟩, h.xf, ?_, ?_, hr⟩
  · exact own_at h.by' (fun g hg => hk.block g (World.ownsRow.lt h.by' g hg).2 (fun q => row_ne h.by' h.crow (by decide) hg q))
  · exact own_at h.row (fun g hg => hk.block g (World.ownsRow.lt h.row g hg).2 (fun q => row_ne h.row h.crow (by decide) hg q))
/-- The queue has grown. -/
theorem EI.pushQ (h : EI N0 w0 e m rm s O bs qv Q cv L W) {qv' : Value} {Q' : List (Sg × Value)} (hg : W.grownBy W' qv.ownBlock) (hr : W'.ownsRow N0 45 14 qv' Q'.length (Q'.flatMap sgL)) : EI N0 w0 e m rm s O bs qv' Q' cv L W' := by
  obtain ⟨c, hx0⟩ := h.xm
  have hk : Kl (fun g => qv.ownBlock = some g) W W' := ⟨hg.os, hg.tape, hg.output, hg.size, fun y hl hn => hg.block y hl (fun q => hn q.symm)⟩
  refine ⟨h.low.trans ⟨hk.os, hk.tape, hk.output, hk.size, fun g hg => hk.block g (Nat.lt_of_lt_of_le hg h.n0) (fun q => by have := (World.ownsRow.lt h.row g q).1; omega)⟩, Nat.le_trans h.n0 hk.size, ⟨c, hx0.keep hk (fun g hg q => hx0.row h.row (by decide) (by decide) q hg)⟩, h.xf, ?_, hr, ?_⟩
  · exact own_at h.by' (fun g hg => hk.block g (World.ownsRow.lt h.by' g hg).2 (fun q => row_ne h.by' h.row (by decide) hg q))
  · exact own_at h.crow (fun g hg => hk.block g (World.ownsRow.lt h.crow g hg).2 (fun q => row_ne h.crow h.row (by decide) hg q))
theorem EI.noC (h : EI N0 w0 e m rm s O bs qv Q cv L W) : EI N0 w0 e m rm s O bs qv Q (.slice none 0 0) [] W := ⟨h.low, h.n0, h.xm, h.xf, h.by', h.row, World.ownsRow_nil _ _ _ _⟩
theorem EI.noQ (h : EI N0 w0 e m rm s O bs qv Q cv L W) : EI N0 w0 e m rm s O bs (.slice none 0 0) [] cv L W := ⟨h.low, h.n0, h.xm, h.xf, h.by', World.ownsRow_nil _ _ _ _, h.crow⟩
end
/-- Is a segment the last of the first pieces'? -/
def isL (last : Pc) (g : Sg) : Prop := g.typ = last.typ ∧ g.off = last.frm ∧ g.chk = last.chk
/-- What is told of all having gone out. -/
structure GR (g0 b0 g1 b1 : Bool) : Prop where
  t : g0 = true → g1 = true ∧ b1 = b0
  f : g0 = false → b1 = g1
theorem gr_step {g0 b0 : Bool} {s : Xs} {b1 : Bool} (h : GR g0 b0 s.gone b1) (g : Sg) : GR g0 b0 (s.gone || sntB s g) (b1 || sntB s g) := by
  refine ⟨fun q => ?_, fun q => ?_⟩
  · obtain ⟨h1, h2⟩ := h.t q
    have e : sntB s g = false := by unfold sntB; rw [h1]; rfl
    rw [e, h1, h2]
    simp
  · rw [h.f q]
theorem snt_last {s : Xs} {g : Sg} (h : isL s.last g) : (s.gone || sntB s g) = true := by
  unfold sntB
  rw [decide_eq_true h.1, decide_eq_true h.2.1, decide_eq_true h.2.2]
  cases s.gone <;> rfl
set_option maxRecDepth 8000 in
set_option maxHeartbeats 4000000 in
theorem out_any {w : World} {e m rm c : Nat} {s : Xs} {O : List Oc} (h : Xm w e m rm c s O) (hg : s.gone = true) : Calls Tryd.prog 7 #[.pointer (some ⟨e, 0, none⟩)] w fun r w' => r = .returned (.bool true) ∧ Below w.heap.size w w' := by
  obtain ⟨x0, x1, x2, x3, x4, x5, x6, x7, x8, x9, x10, x11, x12, x13, x14, x15, x16, x17, x18, x19, x20, x21⟩ := xp_cells h.box
  rw [hg] at x15
  clear h hg
  go_enter Tryd.func7, Tryd.ntmps7
  go_wp2_with fail
  go_quiet (fail)
  go_wp2
  go_ret
  exact ⟨rfl, ⟨rfl, rfl, rfl, Nat.le_refl _, fun _ _ => rfl⟩⟩
end Go.Proofs.YtcfodcioeefbeaaDoor.X
