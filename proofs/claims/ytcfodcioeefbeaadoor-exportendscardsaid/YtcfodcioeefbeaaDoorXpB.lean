import Derived.Test.YtcfodcioeefbeaaDoorXpA
import Derived.DeepKeys4
import Derived.DeepKeys
import Derived.DeepKeys3
import Derived.WideKeyEntry
namespace Go.Proofs.YtcfodcioeefbeaaDoor.X
open Go.RowKit Go.Maps
set_option linter.unusedVariables false
set_option linter.unusedSimpArgs false

/-! ## Sessions that are equal -/
def iW (x : Int) : Bool := (Lit.int .i64 x).wf
theorem iw_of {x : Int} (h : -9223372036854775808 ≤ x ∧ x ≤ 9223372036854775807) : iW x = true := by
  simp [iW, Lit.wf, IntKind.min, IntKind.max, IntKind.bits, IntKind.signed]; omega
theorem cellsS : Tryd.prog.cellsOf 23 = 2 := by kernel_rfl
theorem cellsI : Tryd.prog.cellsOf 3 = 1 := by kernel_rfl
theorem tySize : ∃ m, Tryd.prog.types.size + 1 = m + 2 := ⟨Tryd.prog.types.size - 1, by have : 2 ≤ Tryd.prog.types.size := of_decide_eq_true (by kernel_rfl); omega⟩
theorem litsI (m : Nat) (a : Value) : Tryd.prog.keyLits (m + 1) 3 [a] = (match a with | .int q n => if q = .i64 ∧ iW n = true then some [.int .i64 n] else none | _ => none) := by
  unfold Program.keyLits
  rw [Tryd.underlying3]
  cases a <;> rfl
theorem litsS (m : Nat) (a b : Value) : Tryd.prog.keyLits (m + 2) 23 [a, b] = (Tryd.prog.keyLits (m + 1) 3 [a]).bind fun x => (Tryd.prog.keyLits (m + 1) 3 [b]).bind fun y => some (x ++ y) := by
  conv => lhs; unfold Program.keyLits
  rw [Tryd.underlying23]
  simp [cellsS, cellsI, List.mapM_cons]
  cases Tryd.prog.keyLits (m + 1) 3 [a] <;> simp
  cases Tryd.prog.keyLits (m + 1) 3 [b] <;> simp
theorem deepS : Tryd.prog.keyTypeAt 4 23 = true := by kernel_rfl
theorem formedS (a b : Value) : (Value.agg #[a, b]).formed Tryd.prog 23 = true := by simp [Value.formed, Tryd.underlying23, cellsS]
theorem lits_s {a b : Int} (h1 : iW a = true) (h2 : iW b = true) : Tryd.prog.keyLits (Tryd.prog.types.size + 1) 23 [.int .i64 a, .int .i64 b] = Option.some [.int .i64 a, .int .i64 b] := by
  obtain ⟨m, hm⟩ := tySize
  rw [hm, litsS]
  simp [litsI, h1, h2]
theorem eqGuardS : Tryd.prog.eqGuardType Tryd.prog.depth 23 = false := by kernel_rfl
theorem neq_s {a b c d : Int} (h1 : iW a = true) (h2 : iW b = true) (h3 : iW c = true) (h4 : iW d = true) (w : World) : (binOp .neq 23 (.agg #[.int .i64 a, .int .i64 b]) (.agg #[.int .i64 c, .int .i64 d])).run Tryd.prog w = .ok (.bool (!decide (a = c ∧ b = d))) w := by
  obtain ⟨r, hr, hiff⟩ := run_equalIn_deep (P := Tryd.prog) 9996 4 23 deepS w _ _ (.agg #[.int .i64 a, .int .i64 b]) (.agg #[.int .i64 c, .int .i64 d]) _ _ (formedS _ _) (formedS _ _) (lits_s h1 h2) (lits_s h3 h4)
  have e : r = decide (a = c ∧ b = d) := by
    rw [Bool.eq_iff_iff, hiff, decide_eq_true_iff]
    simp
  subst e
  simp only [binOp, Op.equal, Op.maxDepth]
  simp only [Sem.run_bind, hr, Result.andThen_ok, Sem.run_pure]

/-! ## What changes of an export -/
/-- What becomes of the checkpoints of that number. -/
def upO (c : Int) (f : Oc → Oc) (O : List Oc) : List Oc := O.map fun o => if o.p.chk = c then f o else o
def wtO (b : Bool) (o : Oc) : Oc := { o with wt := b }
def agO (o : Oc) : Oc := { o with wt := true, ag := o.ag + 1 }
theorem upO_en {c : Int} {f : Oc → Oc} (hf : ∀ o, (f o).en = o.en) (O : List Oc) : (upO c f O).map Oc.en = O.map Oc.en := by
  unfold upO
  rw [List.map_map]
  refine List.map_congr_left (fun o _ => ?_)
  simp only [Function.comp]
  split
  · exact hf o
  · rfl
theorem upO_x {c : Int} {f : Oc → Oc} (hf : ∀ o, (f o).x = o.x) (O : List Oc) : (upO c f O).map Oc.x = O.map Oc.x := by
  unfold upO
  rw [List.map_map]
  refine List.map_congr_left (fun o _ => ?_)
  simp only [Function.comp]
  split
  · exact hf o
  · rfl
theorem upO_none {c : Int} {f : Oc → Oc} {O : List Oc} (h : ∀ o ∈ O, o.p.chk ≠ c) : upO c f O = O := by
  unfold upO
  conv => rhs; rw [← List.map_id O]
  exact List.map_congr_left (fun o ho => if_neg (h o ho))
theorem inj_nd {α β : Type} {f : α → β} {l : List α} (h : (l.map f).Nodup) {a b : α} (ha : a ∈ l) (hb : b ∈ l) (e : f a = f b) : a = b := by
  obtain ⟨i, hi, rfl⟩ := List.getElem_of_mem ha
  obtain ⟨j, hj, rfl⟩ := List.getElem_of_mem hb
  have hq : i = j := by
    have hn := List.pairwise_iff_getElem.mp h
    rcases Nat.lt_trichotomy i j with q | q | q
    · exact absurd (by rw [List.getElem_map, List.getElem_map]; exact e) (hn i j (by simpa using hi) (by simpa using hj) q)
    · exact q
    · exact absurd (by rw [List.getElem_map, List.getElem_map]; exact e.symm) (hn j i (by simpa using hj) (by simpa using hi) q)
  subst hq
  rfl
theorem Xm.key {w : World} {e m rm c : Nat} {s : Xs} {O : List Oc} (h : Xm w e m rm c s O) {o o' : Oc} (ho : o ∈ O) (ho' : o' ∈ O) (e1 : o'.p.chk = o.p.chk) : o' = o := by
  have hn := h.mp.nd
  rw [List.map_map] at hn
  exact inj_nd hn ho' ho e1
theorem Xm.xkey {w : World} {e m rm c : Nat} {s : Xs} {O : List Oc} (h : Xm w e m rm c s O) {o o' : Oc} (ho : o ∈ O) (ho' : o' ∈ O) (e1 : o'.x = o.x) : o' = o := inj_nd h.nd ho' ho e1
/-- A checkpoint's cells have changed. -/
theorem Xm.upd {w w' : World} {e m rm c : Nat} {s : Xs} {O : List Oc} (h : Xm w e m rm c s O) {o : Oc} (ho : o ∈ O) {f : Oc → Oc} (hf : ∀ o, (f o).en = o.en ∧ (f o).p = o.p) (hk : Kl (fun g => g = o.x) w w') (hc : w'.heap[o.x]? = some (.cells (ckC o.p (f o).wt (f o).ag) 69)) : Xm w' e m rm c s (upO o.p.chk f O) := by
  have hx : ∀ o, (f o).x = o.x := fun o => congrArg En.x (hf o).1
  have hl := h.lt
  have ho2 := h.off
  refine ⟨(hk.block e (hl e (.inl rfl)) (fun q => (ho2.2 o ho).1 q.symm)).trans h.box, ?_, fun o' ho' => ?_, ?_⟩
  · rw [upO_en (fun o => (hf o).1)]
    exact h.mp.keep (hk.block m (hl m (.inr (.inl rfl))) (fun q => (ho2.2 o ho).2 q.symm))
  · unfold upO at ho'
    obtain ⟨o1, h1, rfl⟩ := List.mem_map.mp ho'
    by_cases q : o1.p.chk = o.p.chk
    · obtain rfl := h.key ho h1 q
      rw [if_pos rfl, hx, (hf _).2]
      exact hc
    · rw [if_neg q]
      exact (hk.block o1.x (hl o1.x (.inr (.inr (List.mem_map.mpr ⟨o1, h1, rfl⟩)))) (fun e1 => q (by rw [h.xkey ho h1 e1]))).trans (h.ck o1 h1)
  · rw [upO_x hx]
    exact h.nd
/-- The box has changed. -/
theorem Xm.boxed {w w' : World} {e m rm c : Nat} {s s' : Xs} {O : List Oc} (h : Xm w e m rm c s O) (hk : Kl (fun g => g = e) w w') (hb : w'.heap[e]? = some (.cells (xpC s' m rm) 63)) : Xm w' e m rm c s' O := by
  have ho2 := h.off
  exact ⟨hb, h.mp.keep (hk.block m (h.lt m (.inr (.inl rfl))) (fun q => ho2.1 q.symm)), fun o ho => (hk.block o.x (h.lt o.x (.inr (.inr (List.mem_map.mpr ⟨o, ho, rfl⟩)))) (ho2.2 o ho).1).trans (h.ck o ho), h.nd⟩
theorem xf_up {e m : Nat} {c : Int} {f : Oc → Oc} (hf : ∀ o, (f o).x = o.x) {O : List Oc} {g : Nat} : XF e m (upO c f O) g ↔ XF e m O g := by
  unfold XF
  rw [upO_x hf]

/-! ## Moves -/
def mvC (sp sd st : Value) (b1 b2 b3 : Bool) (y : Int) : Array Value := #[sp, sd, st, .bool b1, .bool b2, .bool b3, .int .i64 y]
abbrev mvO (sp sd st : Value) (b1 b2 b3 : Bool) (y : Int) : Obj := .cells (mvC sp sd st b1 b2 b3 y) 37
abbrev mvZ : Obj := .cells #[.slice none 0 0, .slice none 0 0, .slice none 0 0, .bool false, .bool false, .bool false, .int .i64 0] 37
def mS (W : World) (g : Nat) (sp sd st : Value) (b1 b2 b3 : Bool) (y : Int) : World := ((((((W.setCell ⟨g, 0, none⟩ (sp)).setCell ⟨g, 1, none⟩ (sd)).setCell ⟨g, 2, none⟩ (st)).setCell ⟨g, 3, none⟩ (.bool b1)).setCell ⟨g, 4, none⟩ (.bool b2)).setCell ⟨g, 5, none⟩ (.bool b3)).setCell ⟨g, 6, none⟩ (.int .i64 y)
theorem mS_heap (W : World) (g : Nat) (sp sd st sp' sd' st' : Value) (b1 b2 b3 b1' b2' b3' : Bool) (y y' : Int) (h : W.heap[g]? = some (mvO sp' sd' st' b1' b2' b3' y')) : (mS W g sp sd st b1 b2 b3 y).heap[g]? = some (mvO sp sd st b1 b2 b3 y) := by
  unfold mS
  simp [World.setCell, Array.getElem?_modify, h, mvC]
theorem grown_trans' {w0 w1 w2 : World} {row : Option Nat} (h : w0.grownBy w1 row) (h' : w1.grownBy w2 row) : w0.grownBy w2 row :=
  ⟨h'.os.trans h.os, h'.tape.trans h.tape, h'.output.trans h.output, Nat.le_trans h.size h'.size, fun k hk hr => (h'.block k (Nat.lt_of_lt_of_le hk h.size) hr).trans (h.block k hk hr)⟩
theorem grown_set' (w : World) (g k : Nat) (v : Value) : w.grownBy (w.setCell ⟨g, k, none⟩ v) (some g) := ⟨rfl, rfl, rfl, by simp, fun j _ hj => heap_setCell_other _ _ _ _ (by simp; exact fun e => hj (by rw [e]))⟩
theorem mS_grown (W : World) (g : Nat) (sp sd st : Value) (b1 b2 b3 : Bool) (y : Int) : W.grownBy (mS W g sp sd st b1 b2 b3 y) (some g) := by
  unfold mS
  iterate 6 refine grown_trans' ?_ (grown_set' _ _ _ _)
  exact grown_set' _ _ _ _
theorem mv_cells {W : World} {g : Nat} {sp sd st : Value} {b1 b2 b3 : Bool} {y : Int} (h : W.heap[g]? = some (mvO sp sd st b1 b2 b3 y)) :
    W.cell? ⟨g, 0, none⟩ = some (sp) ∧ W.cell? ⟨g, 1, none⟩ = some (sd) ∧ W.cell? ⟨g, 2, none⟩ = some (st) ∧ W.cell? ⟨g, 3, none⟩ = some (.bool b1) ∧ W.cell? ⟨g, 4, none⟩ = some (.bool b2) ∧ W.cell? ⟨g, 5, none⟩ = some (.bool b3) ∧ W.cell? ⟨g, 6, none⟩ = some (.int .i64 y) :=
  ⟨(cell_of_row _ _ _ _ _ _ h).trans rfl, (cell_of_row _ _ _ _ _ _ h).trans rfl, (cell_of_row _ _ _ _ _ _ h).trans rfl, (cell_of_row _ _ _ _ _ _ h).trans rfl, (cell_of_row _ _ _ _ _ _ h).trans rfl, (cell_of_row _ _ _ _ _ _ h).trans rfl, (cell_of_row _ _ _ _ _ _ h).trans rfl⟩
theorem mv_frozen {W : World} {g : Nat} {sp sd st : Value} {b1 b2 b3 : Bool} {y : Int} (h : W.heap[g]? = some (mvO sp sd st b1 b2 b3 y)) (k : Nat) : W.frozen? ⟨g, k, none⟩ = false := by simp [World.frozen?, h]
theorem xp_frozen {W : World} {g : Nat} {cs : Array Value} {ty : TypeId} (h : W.heap[g]? = some (.cells cs ty)) (k : Nat) : W.frozen? ⟨g, k, none⟩ = false := by simp [World.frozen?, h]
def XBox (W : World) (e m rm : Nat) (s : Xs) : Prop := W.cell? ⟨e, 0, none⟩ = some (.int .i64 s.k.org) ∧ W.cell? ⟨e, 1, none⟩ = some (.int .i64 s.k.num) ∧ W.cell? ⟨e, 2, none⟩ = some (.int .i64 s.k.srv) ∧ W.cell? ⟨e, 3, none⟩ = some (.int .i64 s.k.size) ∧ W.cell? ⟨e, 4, none⟩ = some (.int .i64 s.k.red) ∧ W.cell? ⟨e, 5, none⟩ = some (.int .i64 s.k.mtu) ∧ W.cell? ⟨e, 6, none⟩ = some (.int .i64 s.k.every) ∧ W.cell? ⟨e, 7, none⟩ = some (s.bv) ∧ W.cell? ⟨e, 8, none⟩ = some (.int .i64 s.ret) ∧ W.cell? ⟨e, 9, none⟩ = some (.int .i64 s.cyc) ∧ W.cell? ⟨e, 10, none⟩ = some (.int .i64 s.last.typ) ∧ W.cell? ⟨e, 11, none⟩ = some (.int .i64 s.last.frm) ∧ W.cell? ⟨e, 12, none⟩ = some (.int .i64 s.last.to) ∧ W.cell? ⟨e, 13, none⟩ = some (.int .i64 s.last.chk) ∧ W.cell? ⟨e, 14, none⟩ = some (.int .i64 s.last.rep) ∧ W.cell? ⟨e, 15, none⟩ = some (.bool s.gone) ∧ W.cell? ⟨e, 16, none⟩ = some (.map (some m)) ∧ W.cell? ⟨e, 17, none⟩ = some (.int .i64 s.chk) ∧ W.cell? ⟨e, 18, none⟩ = some (s.hv) ∧ W.cell? ⟨e, 19, none⟩ = some (.map (some rm)) ∧ W.cell? ⟨e, 20, none⟩ = some (.int .i64 s.sta) ∧ W.cell? ⟨e, 21, none⟩ = some (.bool s.who)
theorem xp_cells {W : World} {e m rm : Nat} {s : Xs} (h : W.heap[e]? = some (.cells (xpC s m rm) 63)) : XBox W e m rm s :=
  ⟨(cell_of_row _ _ _ _ _ _ h).trans rfl, (cell_of_row _ _ _ _ _ _ h).trans rfl, (cell_of_row _ _ _ _ _ _ h).trans rfl, (cell_of_row _ _ _ _ _ _ h).trans rfl, (cell_of_row _ _ _ _ _ _ h).trans rfl, (cell_of_row _ _ _ _ _ _ h).trans rfl, (cell_of_row _ _ _ _ _ _ h).trans rfl, (cell_of_row _ _ _ _ _ _ h).trans rfl, (cell_of_row _ _ _ _ _ _ h).trans rfl, (cell_of_row _ _ _ _ _ _ h).trans rfl, (cell_of_row _ _ _ _ _ _ h).trans rfl, (cell_of_row _ _ _ _ _ _ h).trans rfl, (cell_of_row _ _ _ _ _ _ h).trans rfl, (cell_of_row _ _ _ _ _ _ h).trans rfl, (cell_of_row _ _ _ _ _ _ h).trans rfl, (cell_of_row _ _ _ _ _ _ h).trans rfl, (cell_of_row _ _ _ _ _ _ h).trans rfl, (cell_of_row _ _ _ _ _ _ h).trans rfl, (cell_of_row _ _ _ _ _ _ h).trans rfl, (cell_of_row _ _ _ _ _ _ h).trans rfl, (cell_of_row _ _ _ _ _ _ h).trans rfl, (cell_of_row _ _ _ _ _ _ h).trans rfl⟩
def CkB (W : World) (x : Nat) (p : Pc) (wt : Bool) (ag : Int) : Prop := W.cell? ⟨x, 0, none⟩ = some (.int .i64 p.typ) ∧ W.cell? ⟨x, 1, none⟩ = some (.int .i64 p.frm) ∧ W.cell? ⟨x, 2, none⟩ = some (.int .i64 p.to) ∧ W.cell? ⟨x, 3, none⟩ = some (.int .i64 p.chk) ∧ W.cell? ⟨x, 4, none⟩ = some (.int .i64 p.rep) ∧ W.cell? ⟨x, 5, none⟩ = some (.bool wt) ∧ W.cell? ⟨x, 6, none⟩ = some (.int .i64 ag)
theorem ck_cells {W : World} {x : Nat} {p : Pc} {wt : Bool} {ag : Int} (h : W.heap[x]? = some (.cells (ckC p wt ag) 69)) : CkB W x p wt ag :=
  ⟨(cell_of_row _ _ _ _ _ _ h).trans rfl, (cell_of_row _ _ _ _ _ _ h).trans rfl, (cell_of_row _ _ _ _ _ _ h).trans rfl, (cell_of_row _ _ _ _ _ _ h).trans rfl, (cell_of_row _ _ _ _ _ _ h).trans rfl, (cell_of_row _ _ _ _ _ _ h).trans rfl, (cell_of_row _ _ _ _ _ _ h).trans rfl⟩
def SgB (W : World) (b : Nat) (g : Sg) (hv tv dv cv : Value) : Prop := W.cell? ⟨b, 0, none⟩ = some (.int .i64 g.typ) ∧ W.cell? ⟨b, 1, none⟩ = some (.int .i64 g.org) ∧ W.cell? ⟨b, 2, none⟩ = some (.int .i64 g.num) ∧ W.cell? ⟨b, 3, none⟩ = some (hv) ∧ W.cell? ⟨b, 4, none⟩ = some (tv) ∧ W.cell? ⟨b, 5, none⟩ = some (.int .i64 g.srv) ∧ W.cell? ⟨b, 6, none⟩ = some (.int .i64 g.off) ∧ W.cell? ⟨b, 7, none⟩ = some (dv) ∧ W.cell? ⟨b, 8, none⟩ = some (.int .i64 g.chk) ∧ W.cell? ⟨b, 9, none⟩ = some (.int .i64 g.rep) ∧ W.cell? ⟨b, 10, none⟩ = some (.int .i64 g.upp) ∧ W.cell? ⟨b, 11, none⟩ = some (.int .i64 g.low) ∧ W.cell? ⟨b, 12, none⟩ = some (cv) ∧ W.cell? ⟨b, 13, none⟩ = some (.int .i64 g.rsn)
theorem sg_cells {W : World} {b : Nat} {g : Sg} {hv tv dv cv : Value} (h : W.heap[b]? = some (svO g hv tv dv cv)) : SgB W b g hv tv dv cv :=
  ⟨(cell_of_row _ _ _ _ _ _ h).trans rfl, (cell_of_row _ _ _ _ _ _ h).trans rfl, (cell_of_row _ _ _ _ _ _ h).trans rfl, (cell_of_row _ _ _ _ _ _ h).trans rfl, (cell_of_row _ _ _ _ _ _ h).trans rfl, (cell_of_row _ _ _ _ _ _ h).trans rfl, (cell_of_row _ _ _ _ _ _ h).trans rfl, (cell_of_row _ _ _ _ _ _ h).trans rfl, (cell_of_row _ _ _ _ _ _ h).trans rfl, (cell_of_row _ _ _ _ _ _ h).trans rfl, (cell_of_row _ _ _ _ _ _ h).trans rfl, (cell_of_row _ _ _ _ _ _ h).trans rfl, (cell_of_row _ _ _ _ _ _ h).trans rfl, (cell_of_row _ _ _ _ _ _ h).trans rfl⟩
/-- Does the last of the first pieces go out? -/
def sntB (s : Xs) (g : Sg) : Bool := !s.gone && (decide (g.typ = s.last.typ) && (decide (g.off = s.last.frm) && decide (g.chk = s.last.chk)))
end Go.Proofs.YtcfodcioeefbeaaDoor.X
