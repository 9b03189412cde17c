import Derived.Test.YtcfodcioeefbeaaDoorBkCut
import Derived.Test.YtcfodcioeefbeaaDoorBkMk2
import Derived.Maps.AppendAt
import Derived.Maps.OwnSet
import Derived.Maps.RangeWalk
import Derived.Maps.Ext
import Derived.Maps.RangeRun
import Derived.Laws.AppendOwnNone
import Derived.Laws.OwnMore
import Derived.Deep.RegionHeld3
import Derived.OrdersHeld
import Derived.BigQuiet
namespace Go.Proofs.YtcfodcioeefbeaaDoor.X
open Go.RowKit
set_option linter.unusedVariables false
set_option linter.unusedSimpArgs false

/-! ## The map of checkpoints -/
theorem ckey (w : World) (k : Int) (e : Bool) : (Instr.checkKey e 10000 3 (.int .i64 k)).run Tryd.prog w = .ok () w := MapKept.run_checkKey Tryd.underlying3 (by simp [MapKept.IsKey]) e 9999
def setO (w : World) (m : Nat) (o : Obj) : World := { w with heap := w.heap.setIfInBounds m o }
theorem setO_same {w : World} {m : Nat} {o : Obj} (h : m < w.heap.size) : (setO w m o).heap[m]? = some o := by simp [setO, h]
theorem setO_other {w : World} {m k : Nat} {o : Obj} (h : k ≠ m) : (setO w m o).heap[k]? = w.heap[k]? := by unfold setO; simp only; rw [Array.getElem?_setIfInBounds_ne (Ne.symm h)]
theorem setO_grown (w : World) (m : Nat) (o : Obj) : w.grownBy (setO w m o) (some m) := ⟨rfl, rfl, rfl, by simp [setO], fun k _ hk => setO_other (fun e => hk (by rw [e]))⟩
structure En where
  k : Int
  x : Nat
  b : Nat
def me (e : En) : MapEntry := ⟨.int .i64 e.k, .pointer (some ⟨e.x, 0, none⟩), e.b⟩
structure Mp (w : World) (m clock : Nat) (E : List En) : Prop where
  blk : w.heap[m]? = some (.map (E.map me).toArray clock)
  nd : (E.map En.k).Nodup
  bn : (E.map En.b).Nodup
  bl : ∀ e ∈ E, e.b < clock
theorem Mp.keep {w w' : World} {m clock : Nat} {E : List En} (h : Mp w m clock E) (hb : w'.heap[m]? = w.heap[m]?) : Mp w' m clock E := ⟨hb.trans h.blk, h.nd, h.bn, h.bl⟩
theorem fnG0 (k : Int) : ∀ (E : List En) (i : Nat), (∀ e ∈ E, e.k ≠ k) → Instr.findNow (.int .i64) (.int .i64 k) (E.map me) i = some none
  | [], i, h => rfl
  | e :: r, i, h => by
    have h1 : (k == e.k) = false := by have := h e List.mem_cons_self; simp; exact fun h => this h.symm
    show (match Instr.sameNow (.int .i64) (.int .i64 k) (.int .i64 e.k) with
      | some true => some (some (i, (me e).val))
      | some false => Instr.findNow (.int .i64) (.int .i64 k) (r.map me) (i + 1)
      | none => none) = _
    simp only [Instr.sameNow, if_true, h1]
    exact fnG0 k r (i + 1) (fun e he => h e (List.mem_cons_of_mem _ he))
theorem fnG1 (k : Int) (x b : Nat) : ∀ (A B : List En) (i : Nat), (∀ e ∈ A, e.k ≠ k) → Instr.findNow (.int .i64) (.int .i64 k) ((A ++ (⟨k, x, b⟩ : En) :: B).map me) i = some (some (i + A.length, .pointer (some ⟨x, 0, none⟩)))
  | [], B, i, h => by
    show (match Instr.sameNow (.int .i64) (.int .i64 k) (.int .i64 k) with
      | some true => some (some (i, (Value.pointer (some ⟨x, 0, none⟩))))
      | some false => Instr.findNow (.int .i64) (.int .i64 k) (B.map me) (i + 1)
      | none => none) = _
    simp [Instr.sameNow]
  | e :: r, B, i, h => by
    have h1 : (k == e.k) = false := by have := h e List.mem_cons_self; simp; exact fun h => this h.symm
    show (match Instr.sameNow (.int .i64) (.int .i64 k) (.int .i64 e.k) with
      | some true => some (some (i, (me e).val))
      | some false => Instr.findNow (.int .i64) (.int .i64 k) ((r ++ (⟨k, x, b⟩ : En) :: B).map me) (i + 1)
      | none => none) = _
    simp only [Instr.sameNow, if_true, h1]
    rw [fnG1 k x b r B (i + 1) (fun e he => h e (List.mem_cons_of_mem _ he))]
    simp only [List.length_cons]
    congr 3
    omega
theorem fkG0 (w : World) (k : Int) (E : List En) (h : ∀ e ∈ E, e.k ≠ k) : (Instr.findKey 3 (.int .i64 k) (E.map me)).run Tryd.prog w = .ok none w := by
  simp [Instr.findKey, run_underlying Tryd.underlying3, fnG0 k E 0 h]
theorem fkG1 (w : World) (k : Int) (x b : Nat) (A B : List En) (h : ∀ e ∈ A, e.k ≠ k) : (Instr.findKey 3 (.int .i64 k) ((A ++ (⟨k, x, b⟩ : En) :: B).map me)).run Tryd.prog w = .ok (some (A.length, .pointer (some ⟨x, 0, none⟩))) w := by
  have := fnG1 k x b A B 0 h
  rw [Nat.zero_add] at this
  simp only [Instr.findKey, Sem.run_bind, run_underlying Tryd.underlying3, Result.andThen, this]
  rfl
theorem Mp.split {w : World} {m clock : Nat} {E : List En} (h : Mp w m clock E) {e : En} (he : e ∈ E) : ∃ A B, E = A ++ e :: B ∧ (∀ z ∈ A, z.k ≠ e.k) ∧ (∀ z ∈ B, z.k ≠ e.k) := by
  obtain ⟨A, B, rfl⟩ := List.append_of_mem he
  have hn := h.nd
  rw [List.map_append, List.map_cons, List.nodup_append] at hn
  refine ⟨A, B, rfl, fun z hz e2 => ?_, fun z hz e2 => ?_⟩
  · exact hn.2.2 z.k (List.mem_map.mpr ⟨z, hz, rfl⟩) e.k List.mem_cons_self e2
  · exact (List.nodup_cons.mp hn.2.1).1 (List.mem_map.mpr ⟨z, hz, e2⟩)
theorem lookG0 {w : World} {m clock : Nat} {E : List En} (h : Mp w m clock E) (k : Int) (hk : ∀ e ∈ E, e.k ≠ k) : (Instr.lookup 60 (.map (some m)) (.int .i64 k) true).run Tryd.prog w = .ok (.tuple #[.pointer none, .bool false]) w := by
  have hz : (zeroValue 66).run Tryd.prog w = .ok (.pointer none) w := by first | exact Tryd.zeroValue66 w | exact Tryd.zeroValue66 | simp [zeroValue, typeInfo]
  simp [Instr.lookup, run_underlying Tryd.underlying60, MapKept.run_getObj_map h.blk, ckey, fkG0 w k E hk, hz, Result.andThen]
theorem lookG1 {w : World} {m clock : Nat} {E : List En} (h : Mp w m clock E) (e : En) (he : e ∈ E) : (Instr.lookup 60 (.map (some m)) (.int .i64 e.k) true).run Tryd.prog w = .ok (.tuple #[.pointer (some ⟨e.x, 0, none⟩), .bool true]) w := by
  obtain ⟨A, B, rfl, hA, _⟩ := h.split he
  have h1 := fkG1 w e.k e.x e.b A B hA
  have h2 : (A ++ (⟨e.k, e.x, e.b⟩ : En) :: B) = A ++ e :: B := rfl
  rw [h2] at h1
  simp only [Instr.lookup, Sem.run_bind, run_underlying Tryd.underlying60, MapKept.run_getObj_map h.blk, Result.andThen, ckey, h1, Sem.run_pure, if_true]
  first | rfl | skip
theorem updG0 {w : World} {m clock : Nat} {E : List En} (h : Mp w m clock E) (k : Int) (x : Nat) (hk : ∀ e ∈ E, e.k ≠ k) : (Instr.mapUpdate 60 (.map (some m)) (.int .i64 k) (.pointer (some ⟨x, 0, none⟩))).run Tryd.prog w = .ok () (setO w m (.map ((E ++ [(⟨k, x, clock⟩ : En)]).map me).toArray (clock + 1))) := by
  simp [Instr.mapUpdate, run_underlying Tryd.underlying60, MapKept.run_getObj_map h.blk, MapKept.run_setObj_map _ h.blk, ckey, fkG0 w k E hk, Result.andThen, setO, me]
theorem Mp.push {w : World} {m clock : Nat} {E : List En} (h : Mp w m clock E) (k : Int) (x : Nat) (hk : ∀ e ∈ E, e.k ≠ k) : Mp (setO w m (.map ((E ++ [(⟨k, x, clock⟩ : En)]).map me).toArray (clock + 1))) m (clock + 1) (E ++ [(⟨k, x, clock⟩ : En)]) := by
  refine ⟨setO_same (Array.getElem?_eq_some_iff.1 h.blk).1, ?_, ?_, fun e he => ?_⟩
  · rw [List.map_append]
    refine List.nodup_append.mpr ⟨h.nd, by simp, fun a ha b hb e => ?_⟩
    obtain ⟨z, hz, rfl⟩ := List.mem_map.mp ha
    simp at hb
    exact hk z hz (e.trans hb)
  · rw [List.map_append]
    refine List.nodup_append.mpr ⟨h.bn, by simp, fun a ha b hb e => ?_⟩
    obtain ⟨z, hz, rfl⟩ := List.mem_map.mp ha
    simp at hb
    have := h.bl z hz
    omega
  · rcases List.mem_append.mp he with he | he
    · have := h.bl e he; omega
    · simp at he; subst he; show clock < clock + 1; omega
def noK (k : Int) (E : List En) : List En := E.filter fun e => decide (e.k ≠ k)
theorem mem_noK {k : Int} {E : List En} {e : En} : e ∈ noK k E ↔ e ∈ E ∧ e.k ≠ k := by simp [noK]
theorem noK_self {k : Int} {E : List En} (h : ∀ e ∈ E, e.k ≠ k) : noK k E = E := List.filter_eq_self.mpr (fun e he => by simpa using h e he)
theorem delG {w : World} {m clock : Nat} {E : List En} (h : Mp w m clock E) (k : Int) (ty : TypeId) : (Builtin.delete_ #[60, 3] ty #[.map (some m), .int .i64 k]).run Tryd.prog w = .ok (.tuple #[]) (setO w m (.map ((noK k E).map me).toArray clock)) := by
  by_cases hk : ∀ e ∈ E, e.k ≠ k
  · rw [noK_self hk]
    simp [Builtin.delete_, run_underlying Tryd.underlying60, MapKept.run_getObj_map h.blk, MapKept.run_setObj_map _ h.blk, ckey, fkG0 w k E hk, Result.andThen, setO]
  · have : ∃ e ∈ E, e.k = k := Classical.byContradiction fun hn => hk (fun e he e2 => hn ⟨e, he, e2⟩)
    obtain ⟨e, he, rfl⟩ := this
    obtain ⟨A, B, rfl, hA, hB⟩ := h.split he
    have h1 := fkG1 w e.k e.x e.b A B hA
    have h2 : (A ++ (⟨e.k, e.x, e.b⟩ : En) :: B) = A ++ e :: B := rfl
    have h3 : noK e.k (A ++ e :: B) = A ++ B := by
      have a1 : noK e.k A = A := noK_self hA
      have a2 : noK e.k B = B := noK_self hB
      unfold noK at *
      rw [List.filter_append, List.filter_cons, a1, a2]
      simp
    rw [h3]
    rw [h2] at h1
    have h4 : ((List.map me (A ++ e :: B)).toArray).eraseIdxIfInBounds A.length = ((A ++ B).map me).toArray := by
      rw [List.eraseIdxIfInBounds_toArray]
      refine congrArg List.toArray ?_
      rw [List.map_append, List.map_cons, List.eraseIdx_append_of_length_le (by simp)]
      simp
    simp only [Builtin.delete_, Sem.run_bind, run_underlying Tryd.underlying60, MapKept.run_getObj_map h.blk, Result.andThen, ckey, h1, h4, MapKept.run_setObj_map _ h.blk, Sem.run_pure, List.getElem?_toArray, List.getElem?_cons_zero, List.getElem?_cons_succ]
    first | rfl | simp [setO]
theorem Mp.del {w : World} {m clock : Nat} {E : List En} (h : Mp w m clock E) (k : Int) : Mp (setO w m (.map ((noK k E).map me).toArray clock)) m clock (noK k E) :=
  ⟨setO_same (Array.getElem?_eq_some_iff.1 h.blk).1, List.Nodup.sublist (List.Sublist.map _ List.filter_sublist) h.nd, List.Nodup.sublist (List.Sublist.map _ List.filter_sublist) h.bn, fun e he => h.bl e (mem_noK.mp he).1⟩

/-! ## What has changed -/
structure Kl (S : Nat → Prop) (w w' : World) : Prop where
  os : w'.os = w.os
  tape : w'.tape = w.tape
  output : w'.output = w.output
  size : w.heap.size ≤ w'.heap.size
  block : ∀ g, g < w.heap.size → ¬ S g → w'.heap[g]? = w.heap[g]?
theorem Kl.refl (S : Nat → Prop) (w : World) : Kl S w w := ⟨rfl, rfl, rfl, Nat.le_refl _, fun _ _ _ => rfl⟩
theorem Kl.then {S S' : Nat → Prop} {w w1 w2 : World} (h : Kl S w w1) (h' : Kl S' w1 w2) (hs : ∀ g, g < w.heap.size → S' g → S g) : Kl S w w2 :=
  ⟨h'.os.trans h.os, h'.tape.trans h.tape, h'.output.trans h.output, Nat.le_trans h.size h'.size, fun g hg hS => (h'.block g (Nat.lt_of_lt_of_le hg h.size) (fun e => hS (hs g hg e))).trans (h.block g hg hS)⟩
theorem Kl.mono {S S' : Nat → Prop} {w w' : World} (h : Kl S w w') (hs : ∀ g, g < w.heap.size → S g → S' g) : Kl S' w w' := ⟨h.os, h.tape, h.output, h.size, fun g hg hS => h.block g hg (fun e => hS (hs g hg e))⟩
theorem Kl.grown {S : Nat → Prop} {w0 w w' : World} {row : Option Nat} (h : Kl S w0 w) (hg : w.grownBy w' row) (hr : ∀ k, row = some k → S k ∨ w0.heap.size ≤ k) : Kl S w0 w' :=
  ⟨hg.os.trans h.os, hg.tape.trans h.tape, hg.output.trans h.output, Nat.le_trans h.size hg.size, fun g hgl hS => (hg.block g (Nat.lt_of_lt_of_le hgl h.size) (fun e => by
    rcases hr g e.symm with h1 | h1
    · exact hS h1
    · omega)).trans (h.block g hgl hS)⟩
theorem Kl.of_below {S : Nat → Prop} {w w' : World} (h : Below w.heap.size w w') : Kl S w w' := ⟨h.os, h.tape, h.output, h.size, fun g hg _ => h.block g hg⟩
theorem Kl.below {S : Nat → Prop} {w w1 w2 : World} (h : Kl S w w1) (h' : Below w1.heap.size w1 w2) : Kl S w w2 := h.then (Kl.of_below (S := fun _ => False) h') (fun _ _ e => e.elim)
theorem Kl.cell {S : Nat → Prop} {w w' : World} (h : Kl S w w') {g o : Nat} {u : Value} (hc : w.cell? ⟨g, o, none⟩ = some u) (hn : ¬ S g) : w'.cell? ⟨g, o, none⟩ = some u := by
  have hl := World.block_lt_of_cell? w ⟨g, o, none⟩ hc
  rw [← hc]
  unfold World.cell?
  simp only [h.block g hl hn]
theorem wpl_row {P : Program} {ops : Array Oper} {rest : List Oper} {o : Oper} {a : Act} {Q : Exit → Act → World → Prop} (w : World) (hg : o.guard = none) (s x : Operand) (t : TypeId) (hop : o.op = Op.call { callee := Callee.builtin Builtin.append, args := #[s, x], argTypes := #[t, t] })
    (base : Nat) (e : TypeId) (i : TypeInfo) (z : Value) (size bytes : Nat) (ht : P.underlying t = some (.slice e)) (hi : P.info? e = some i) (hz : i.zero = some z) (hsize : i.size = size) (hby : i.bytes = bytes) (hzs : z.cells.size = size) (hsz : 0 < size)
    (v : Value) (n : Nat) (xs : List Value) (hs : a.eval s = v) (hown : w.ownsRow base e size v n xs) (v2 : Value) (m : Nat) (news : List Value) (hx : a.eval x = v2) (hown2 : w.ownsRow 0 e size v2 m news) (h1 : ∀ u ∈ news, u.oneCell' = true)
    (h63 : n + m ≤ maxLen) (hbytes : (n + m) * bytes ≤ 140737488355328) (hbase : base ≤ w.heap.size)
    (hK : ∀ v' w', w'.ownsRow base e size v' (n + m) (xs ++ news) → w.grownBy w' v.ownBlock → (v'.ownBlock = v.ownBlock ∨ v'.ownBlock = some w.heap.size) → wpList P ops Q rest (a.put o.dst v') w') : wpList P ops Q (o :: rest) a w := by
  have hlen : news.length = m * size := hown2.1
  obtain ⟨_, ⟨rfl, rfl⟩ | ⟨g, cap, cur, rfl, _⟩⟩ := id hown2
  · have hn0 : news = [] := List.eq_nil_of_length_eq_zero (by rw [hlen]; omega)
    subst hn0
    refine wpList_append_own_none hg s x t hop base e i size ht hi v n xs hs hown hx ?_
    exact hK v w (by simpa using hown) ⟨rfl, rfl, rfl, Nat.le_refl _, fun _ _ _ => rfl⟩ (.inl rfl)
  · refine wpList_append_own_at w hg s x t hop base e i z size bytes ht hi hz hsize hby hzs hsz v n xs hs hown ⟨g, 0, none⟩ m cap news hx hlen (hown2.cells (g := g) rfl) h1 h63 hbytes hbase ?_
    intro v' w' r2 r3 _ r5
    exact hK v' w' r2 r3 r5

/-! ## An export in memory -/
/-- A checkpoint that is open: its block, its piece, whether it waits, how often it was sent again. -/
structure Oc where
  b : Nat
  x : Nat
  p : Pc
  wt : Bool
  ag : Int
def Oc.en (o : Oc) : En := ⟨o.p.chk, o.x, o.b⟩
def ckC (p : Pc) (wt : Bool) (ag : Int) : Array Value := #[.int .i64 p.typ, .int .i64 p.frm, .int .i64 p.to, .int .i64 p.chk, .int .i64 p.rep, .bool wt, .int .i64 ag]
/-- What an export is, but for its checkpoints. -/
structure Xs where
  k : Pk
  bv : Value
  ret : Int
  cyc : Int
  last : Pc
  gone : Bool
  chk : Int
  hv : Value
  sta : Int
  who : Bool
def xpC (s : Xs) (m rm : Nat) : Array Value := #[.int .i64 s.k.org, .int .i64 s.k.num, .int .i64 s.k.srv, .int .i64 s.k.size, .int .i64 s.k.red, .int .i64 s.k.mtu, .int .i64 s.k.every, s.bv, .int .i64 s.ret, .int .i64 s.cyc, .int .i64 s.last.typ, .int .i64 s.last.frm, .int .i64 s.last.to, .int .i64 s.last.chk, .int .i64 s.last.rep, .bool s.gone, .map (some m), .int .i64 s.chk, s.hv, .map (some rm), .int .i64 s.sta, .bool s.who]
structure Xm (w : World) (e m rm c : Nat) (s : Xs) (O : List Oc) : Prop where
  box : w.heap[e]? = some (.cells (xpC s m rm) 63)
  mp : Mp w m c (O.map Oc.en)
  ck : ∀ o ∈ O, w.heap[o.x]? = some (.cells (ckC o.p o.wt o.ag) 69)
  nd : (O.map Oc.x).Nodup
/-- Whose blocks an export's are. -/
def XF (e m : Nat) (O : List Oc) (g : Nat) : Prop := g = e ∨ g = m ∨ g ∈ O.map Oc.x
theorem own_at {w w' : World} {base size n : Nat} {e : TypeId} {v : Value} {xs : List Value} (h : w.ownsRow base e size v n xs) (hk : ∀ g, v.ownBlock = some g → w'.heap[g]? = w.heap[g]?) : w'.ownsRow base e size v n xs := by
  obtain ⟨hl, h | ⟨g, cap, cur, rfl, hb, hh, r⟩⟩ := h
  · exact ⟨hl, .inl h⟩
  · exact ⟨hl, .inr ⟨g, cap, cur, rfl, hb, (hk g rfl).trans hh, r⟩⟩
theorem own_low {w : World} {b b' s n : Nat} {e : TypeId} {v : Value} {xs : List Value} (h : w.ownsRow b e s v n xs) (hb : b' ≤ b) : w.ownsRow b' e s v n xs := by
  obtain ⟨hl, h | ⟨g, cap, cur, hv, hg, r⟩⟩ := h
  · exact ⟨hl, .inl h⟩
  · exact ⟨hl, .inr ⟨g, cap, cur, hv, Nat.le_trans hb hg, r⟩⟩
/-- Two rows of different elements lie apart. -/
theorem apart_of {W : World} {b n s : Nat} {e t : TypeId} {v : Value} {xs : List Value} {cs : Array Value} {g y : Nat} (h : W.ownsRow b e s v n xs) (hg : v.ownBlock = some g) (hy : W.heap[y]? = some (.cells cs t (0, 0))) (hn : e ≠ t) : g ≠ y := by
  obtain ⟨_, h | ⟨g', cap, cur, rfl, _, hh, _⟩⟩ := h
  · rw [h.1] at hg; cases hg
  · simp only [Value.ownBlock, Option.some.injEq] at hg
    subst hg
    intro e1
    rw [e1, hy] at hh
    simp only [Option.some.injEq, Obj.cells.injEq] at hh
    exact hn hh.2.1.symm
theorem Xm.lt {w : World} {e m rm c : Nat} {s : Xs} {O : List Oc} (h : Xm w e m rm c s O) : ∀ g, XF e m O g → g < w.heap.size := fun g hg => by
  rcases hg with rfl | rfl | hg
  · exact (Array.getElem?_eq_some_iff.1 h.box).1
  · exact (Array.getElem?_eq_some_iff.1 h.mp.blk).1
  · obtain ⟨o, ho, rfl⟩ := List.mem_map.mp hg
    exact (Array.getElem?_eq_some_iff.1 (h.ck o ho)).1
theorem Xm.keep {S : Nat → Prop} {w w' : World} {e m rm c : Nat} {s : Xs} {O : List Oc} (h : Xm w e m rm c s O) (hk : Kl S w w') (hn : ∀ g, XF e m O g → ¬ S g) : Xm w' e m rm c s O := by
  have kp : ∀ g, XF e m O g → w'.heap[g]? = w.heap[g]? := fun g hg => hk.block g (h.lt g hg) (hn g hg)
  exact ⟨(kp _ (.inl rfl)).trans h.box, h.mp.keep (kp _ (.inr (.inl rfl))), fun o ho => (kp _ (.inr (.inr (List.mem_map.mpr ⟨o, ho, rfl⟩)))).trans (h.ck o ho), h.nd⟩
theorem Xm.below {w w' : World} {e m rm c : Nat} {s : Xs} {O : List Oc} (h : Xm w e m rm c s O) (hb : Below w.heap.size w w') : Xm w' e m rm c s O := h.keep (S := fun _ => False) (Kl.of_below hb) (fun _ _ => id)
/-- The box is no checkpoint, no map. -/
theorem Xm.off {w : World} {e m rm c : Nat} {s : Xs} {O : List Oc} (h : Xm w e m rm c s O) : e ≠ m ∧ (∀ o ∈ O, o.x ≠ e ∧ o.x ≠ m) := by
  refine ⟨fun q => ?_, fun o ho => ⟨fun q => ?_, fun q => ?_⟩⟩
  · have h1 := h.box
    rw [q, h.mp.blk] at h1
    simp at h1
  · have h1 := h.ck o ho
    rw [q, h.box] at h1
    simp only [Option.some.injEq, Obj.cells.injEq] at h1
    exact absurd h1.2.1 (by decide)
  · have h1 := h.ck o ho
    rw [q, h.mp.blk] at h1
    simp at h1
end Go.Proofs.YtcfodcioeefbeaaDoor.X
