import Derived.Test.YtillgoegiplmkaaGreatDoorChecked
import Derived.WalkKit
import Derived.Maps.OwnSet
import Derived.Maps.RangeWalk
import Derived.Maps.RangeRun
import Derived.Maps.Ext
import Derived.DeepKeys4
import Derived.DeepKeys
import Derived.DeepKeys3
import Derived.WideKeyEntry
import Derived.Below
namespace Go.Proofs.YtillgoegiplmkaaGreatDoor.B
open Go.RowKit Go.Maps
set_option linter.unusedVariables false
set_option linter.unusedSimpArgs false

/-! ## Maps keyed by sessions: lists of entries -/
abbrev Ss := Int × Int
abbrev sA (k : Ss) : Value := .agg #[.int .i64 k.1, .int .i64 k.2]
def iW (x : Int) : Bool := (Lit.int .i64 x).wf
def sW (k : Ss) : Prop := iW k.1 = true ∧ iW k.2 = true
theorem cellsS : Tryz.prog.cellsOf 31 = 2 := by kernel_rfl
theorem cellsI : Tryz.prog.cellsOf 3 = 1 := by kernel_rfl
theorem tySize : ∃ m, Tryz.prog.types.size + 1 = m + 2 := ⟨Tryz.prog.types.size - 1, by have : 2 ≤ Tryz.prog.types.size := of_decide_eq_true (by kernel_rfl); omega⟩
theorem litsI (m : Nat) (a : Value) : Tryz.prog.keyLits (m + 1) 3 [a] = (match a with | .int q n => if q = .i64 ∧ iW n = true then some [.int .i64 n] else none | _ => none) := by
  unfold Program.keyLits
  rw [Tryz.underlying3]
  cases a <;> rfl
theorem litsS (m : Nat) (a b : Value) : Tryz.prog.keyLits (m + 2) 31 [a, b] = (Tryz.prog.keyLits (m + 1) 3 [a]).bind fun x => (Tryz.prog.keyLits (m + 1) 3 [b]).bind fun y => some (x ++ y) := by
  conv => lhs; unfold Program.keyLits
  rw [Tryz.underlying31]
  simp [cellsS, cellsI, List.mapM_cons]
  cases Tryz.prog.keyLits (m + 1) 3 [a] <;> simp
  cases Tryz.prog.keyLits (m + 1) 3 [b] <;> simp
theorem deepS : Tryz.prog.keyTypeAt 4 31 = true := by kernel_rfl
theorem formedS (a b : Value) : (Value.agg #[a, b]).formed Tryz.prog 31 = true := by simp [Value.formed, Tryz.underlying31, cellsS]
theorem lits_s {a b : Int} (h1 : iW a = true) (h2 : iW b = true) : Tryz.prog.keyLits (Tryz.prog.types.size + 1) 31 [.int .i64 a, .int .i64 b] = Option.some [.int .i64 a, .int .i64 b] := by
  obtain ⟨m, hm⟩ := tySize
  rw [hm, litsS]
  simp [litsI, h1, h2]
theorem eqGuardS : Tryz.prog.eqGuardType Tryz.prog.depth 31 = false := by kernel_rfl
theorem equal_s {x y : Ss} (hx : sW x) (hy : sW y) (w : World) : (Op.equal 31 (sA x) (sA y)).run Tryz.prog w = .ok (decide (x = y)) w := by
  obtain ⟨r, hr, hiff⟩ := run_equalIn_deep (P := Tryz.prog) 9996 4 31 deepS w _ _ (sA x) (sA y) _ _ (formedS _ _) (formedS _ _) (lits_s hx.1 hx.2) (lits_s hy.1 hy.2)
  have e : r = decide (x = y) := by
    rw [Bool.eq_iff_iff, hiff, decide_eq_true_iff]
    obtain ⟨x0, x1⟩ := x
    obtain ⟨y0, y1⟩ := y
    simp
  subst e
  simp only [Op.equal, Op.maxDepth]
  exact hr
theorem eql_s {x y : Ss} (hx : sW x) (hy : sW y) (w : World) : (binOp .eql 31 (sA x) (sA y)).run Tryz.prog w = .ok (.bool (decide (x = y))) w := by
  simp only [binOp, Sem.run_bind, equal_s hx hy, Result.andThen_ok, Sem.run_pure]
structure Ent where
  k : Ss
  v : Value
  b : Nat
def em (e : Ent) : MapEntry := ⟨sA e.k, e.v, e.b⟩
structure Mb (w : World) (m clock : Nat) (E : List Ent) : Prop where
  blk : w.heap[m]? = some (.map (E.map em).toArray clock)
  nd : (E.map Ent.k).Nodup
  bn : (E.map Ent.b).Nodup
  bl : ∀ e ∈ E, e.b < clock
  wf : ∀ e ∈ E, sW e.k
theorem ask0 {k : Ss} (hk : sW k) (w : World) : ∀ (E : List Ent) (i : Nat), (∀ e ∈ E, sW e.k ∧ e.k ≠ k) → (Instr.findAsking 31 (sA k) (E.map em) i).run Tryz.prog w = .ok none w
  | [], i, h => by simp [Instr.findAsking]
  | e :: r, i, h => by
    have h1 := h e List.mem_cons_self
    have h2 : decide (k = e.k) = false := decide_eq_false (fun e2 => h1.2 e2.symm)
    have ih := ask0 hk w r (i + 1) (fun e he => h e (List.mem_cons_of_mem _ he))
    have h3 := equal_s hk h1.1 w
    rw [h2] at h3
    show (do if ← Op.equal 31 (sA k) (sA e.k) then pure (some (i, e.v)) else Instr.findAsking 31 (sA k) (r.map em) (i + 1)).run Tryz.prog w = _
    simp only [Sem.run_bind, h3, Result.andThen_ok, Bool.false_eq_true, if_false]
    exact ih
theorem ask1 {k : Ss} (hk : sW k) (w : World) (v : Value) (b : Nat) : ∀ (A C : List Ent) (i : Nat), (∀ e ∈ A, sW e.k ∧ e.k ≠ k) → (Instr.findAsking 31 (sA k) ((A ++ (⟨k, v, b⟩ : Ent) :: C).map em) i).run Tryz.prog w = .ok (some (i + A.length, v)) w
  | [], C, i, h => by
    have h3 := equal_s hk hk w
    rw [decide_eq_true rfl] at h3
    show (do if ← Op.equal 31 (sA k) (sA k) then pure (some (i, v)) else Instr.findAsking 31 (sA k) (C.map em) (i + 1)).run Tryz.prog w = _
    simp only [Sem.run_bind, h3, Result.andThen_ok, if_true, Sem.run_pure]
    rfl
  | e :: r, C, i, h => by
    have h1 := h e List.mem_cons_self
    have h2 : decide (k = e.k) = false := decide_eq_false (fun e2 => h1.2 e2.symm)
    have ih := ask1 hk w v b r C (i + 1) (fun e he => h e (List.mem_cons_of_mem _ he))
    have h3 := equal_s hk h1.1 w
    rw [h2] at h3
    show (do if ← Op.equal 31 (sA k) (sA e.k) then pure (some (i, e.v)) else Instr.findAsking 31 (sA k) ((r ++ (⟨k, v, b⟩ : Ent) :: C).map em) (i + 1)).run Tryz.prog w = _
    simp only [Sem.run_bind, h3, Result.andThen_ok, Bool.false_eq_true, if_false]
    rw [ih, List.length_cons, show i + (r.length + 1) = i + 1 + r.length by omega]
theorem nowS (k : Ss) (e : Ent) (r : List Ent) (d : TypeDesc) (hd : Tryz.prog.underlying 31 = some d) : Instr.findNow d (sA k) ((e :: r).map em) 0 = none := by
  rw [Tryz.underlying31] at hd
  cases hd
  rfl
set_option maxRecDepth 100000 in
theorem find0 {k : Ss} (hk : sW k) (w : World) (E : List Ent) (h : ∀ e ∈ E, sW e.k ∧ e.k ≠ k) : (Instr.findKey 31 (sA k) (E.map em)).run Tryz.prog w = .ok none w := by
  cases E with
  | nil => simp [Instr.findKey, run_underlying Tryz.underlying31, Instr.findNow]
  | cons e r =>
    have h1 := ask0 hk w (e :: r) 0 h
    rw [Instr.findKey, Sem.run_bind, run_underlying Tryz.underlying31, Result.andThen_ok, nowS k e r _ Tryz.underlying31]
    exact h1
set_option maxRecDepth 100000 in
theorem find1 {k : Ss} (hk : sW k) (w : World) (v : Value) (b : Nat) (A C : List Ent) (h : ∀ e ∈ A, sW e.k ∧ e.k ≠ k) : (Instr.findKey 31 (sA k) ((A ++ (⟨k, v, b⟩ : Ent) :: C).map em)).run Tryz.prog w = .ok (some (A.length, v)) w := by
  obtain ⟨e, r, hr⟩ : ∃ e r, A ++ (⟨k, v, b⟩ : Ent) :: C = e :: r := by cases A <;> exact ⟨_, _, rfl⟩
  have h1 := ask1 hk w v b A C 0 h
  rw [Nat.zero_add] at h1
  rw [hr] at h1 ⊢
  simp only [Instr.findKey, Sem.run_bind, run_underlying Tryz.underlying31, Result.andThen_ok, nowS k e r _ Tryz.underlying31]
  exact h1

/-! ### The operations, whatever the elements are -/
theorem ckeyS {k : Ss} (hk : sW k) (w : World) (e : Bool) : (Instr.checkKey e 10000 31 (sA k)).run Tryz.prog w = .ok () w := run_checkKey_deep (P := Tryz.prog) e 9996 4 31 deepS w _ (sA k) _ (formedS _ _) (lits_s hk.1 hk.2)
theorem Mb.split {w : World} {m clock : Nat} {E : List Ent} (h : Mb w m clock E) {e : Ent} (he : e ∈ E) : ∃ A C, E = A ++ e :: C ∧ (∀ z ∈ A, sW z.k ∧ z.k ≠ e.k) ∧ (∀ z ∈ C, z.k ≠ e.k) := by
  obtain ⟨A, C, rfl⟩ := List.append_of_mem he
  have hn := h.nd
  rw [List.map_append, List.map_cons, List.nodup_append] at hn
  refine ⟨A, C, rfl, fun z hz => ⟨h.wf z (List.mem_append.mpr (.inl hz)), fun e2 => ?_⟩, fun z hz e2 => ?_⟩
  · exact hn.2.2 z.k (List.mem_map.mpr ⟨z, hz, rfl⟩) e.k List.mem_cons_self e2
  · exact (List.nodup_cons.mp hn.2.1).1 (List.mem_map.mpr ⟨z, hz, e2⟩)
set_option maxRecDepth 100000 in
theorem lookB0 {mt et : TypeId} (hu : Tryz.prog.underlying mt = some (.map 31 et)) {z : Value} {w : World} (hz : (zeroValue et).run Tryz.prog w = .ok z w) {m clock : Nat} {E : List Ent} (h : Mb w m clock E) {k : Ss} (hk : sW k) (hn : ∀ e ∈ E, e.k ≠ k) (c : Bool) : (Instr.lookup mt (.map (some m)) (sA k) c).run Tryz.prog w = .ok (if c then .tuple #[z, .bool false] else z) w := by
  have h1 := find0 hk w E (fun e he => ⟨h.wf e he, hn e he⟩)
  simp only [Instr.lookup, Sem.run_bind, run_underlying hu, Result.andThen_ok, MapKept.run_getObj_map h.blk, Sem.run_pure, ckeyS hk, h1, hz]
set_option maxRecDepth 100000 in
theorem lookB1 {mt et : TypeId} (hu : Tryz.prog.underlying mt = some (.map 31 et)) {w : World} {m clock : Nat} {E : List Ent} (h : Mb w m clock E) {e : Ent} (he : e ∈ E) (c : Bool) : (Instr.lookup mt (.map (some m)) (sA e.k) c).run Tryz.prog w = .ok (if c then .tuple #[e.v, .bool true] else e.v) w := by
  obtain ⟨A, C, rfl, hA, _⟩ := h.split he
  have h1 := find1 (h.wf e he) w e.v e.b A C hA
  have h2 : (A ++ (⟨e.k, e.v, e.b⟩ : Ent) :: C) = A ++ e :: C := rfl
  rw [h2] at h1
  simp only [Instr.lookup, Sem.run_bind, run_underlying hu, Result.andThen_ok, MapKept.run_getObj_map h.blk, Sem.run_pure, ckeyS (h.wf e he), h1]

/-- An object laid in a block. -/
def setOb (w : World) (m : Nat) (o : Obj) : World := { w with heap := w.heap.setIfInBounds m o }
theorem setOb_same {w : World} {m : Nat} {o : Obj} (h : m < w.heap.size) : (setOb w m o).heap[m]? = some o := by simp [setOb, h]
theorem setOb_other {w : World} {m k : Nat} {o : Obj} (h : k ≠ m) : (setOb w m o).heap[k]? = w.heap[k]? := by unfold setOb; simp only; rw [Array.getElem?_setIfInBounds_ne (Ne.symm h)]
theorem setOb_grown (w : World) (m : Nat) (o : Obj) : w.grownBy (setOb w m o) (some m) := ⟨rfl, rfl, rfl, by simp [setOb], fun k _ hk => setOb_other (fun e => hk (by rw [e]))⟩
theorem bits_s (k : Ss) : Instr.sameBits 10000 (sA k) (sA k) = true := by
  show (_ && _) = true
  simp [Instr.sameBits]
set_option maxRecDepth 100000 in
theorem updB0 {mt et : TypeId} (hu : Tryz.prog.underlying mt = some (.map 31 et)) {w : World} {m clock : Nat} {E : List Ent} (h : Mb w m clock E) {k : Ss} (hk : sW k) (hn : ∀ e ∈ E, e.k ≠ k) (v : Value) : (Instr.mapUpdate mt (.map (some m)) (sA k) v).run Tryz.prog w = .ok () (setOb w m (.map ((E ++ [(⟨k, v, clock⟩ : Ent)]).map em).toArray (clock + 1))) := by
  have h1 := find0 hk w E (fun e he => ⟨h.wf e he, hn e he⟩)
  have h2 : (List.map em E).toArray.push ⟨sA k, v, clock⟩ = ((E ++ [(⟨k, v, clock⟩ : Ent)]).map em).toArray := by simp [em]
  simp only [Instr.mapUpdate, Sem.run_bind, run_underlying hu, Result.andThen_ok, MapKept.run_getObj_map h.blk, ckeyS hk, h1, MapKept.run_setObj_map _ h.blk]
  rw [h2]
  rfl
def setK (k : Ss) (v : Value) (E : List Ent) : List Ent := E.map fun e => if e.k = k then ⟨e.k, v, e.b⟩ else e
theorem setK_split {k : Ss} {v v0 : Value} {b : Nat} {A C : List Ent} (hA : ∀ z ∈ A, z.k ≠ k) (hC : ∀ z ∈ C, z.k ≠ k) : setK k v (A ++ (⟨k, v0, b⟩ : Ent) :: C) = A ++ (⟨k, v, b⟩ : Ent) :: C := by
  have f : ∀ l : List Ent, (∀ z ∈ l, z.k ≠ k) → setK k v l = l := fun l hl => by
    unfold setK
    have h1 : l.map (fun e : Ent => if e.k = k then (⟨e.k, v, e.b⟩ : Ent) else e) = l.map id := List.map_congr_left (fun z hz => if_neg (hl z hz))
    rw [h1, List.map_id]
  have a1 := f A hA
  have a2 := f C hC
  unfold setK at *
  rw [List.map_append, List.map_cons, a1, a2]
  simp
theorem mod_mid {α : Type} (f : α → α) : ∀ (A : List α) (x : α) (C : List α), (A ++ x :: C).modify A.length f = A ++ f x :: C
  | [], x, C => by simp
  | a :: r, x, C => by simp [mod_mid f r x C]
set_option maxRecDepth 100000 in
theorem updB1 {mt et : TypeId} (hu : Tryz.prog.underlying mt = some (.map 31 et)) {w : World} {m clock : Nat} {E : List Ent} (h : Mb w m clock E) {e : Ent} (he : e ∈ E) (v : Value) : (Instr.mapUpdate mt (.map (some m)) (sA e.k) v).run Tryz.prog w = .ok () (setOb w m (.map ((setK e.k v E).map em).toArray clock)) := by
  obtain ⟨A, C, rfl, hA, hC⟩ := h.split he
  have h1 := find1 (h.wf e he) w e.v e.b A C hA
  have h2 : (A ++ (⟨e.k, e.v, e.b⟩ : Ent) :: C) = A ++ e :: C := rfl
  rw [h2] at h1
  have h3 : setK e.k v (A ++ e :: C) = A ++ (⟨e.k, v, e.b⟩ : Ent) :: C := setK_split (v0 := e.v) (fun z hz => (hA z hz).2) hC
  have h4 : ((List.map em (A ++ e :: C)).toArray[A.length]?) = some (em e) := by simp
  have h5 : ((List.map em (A ++ e :: C)).toArray).modify A.length (fun x => { x with key := sA e.k, val := v }) = ((A ++ (⟨e.k, v, e.b⟩ : Ent) :: C).map em).toArray := by
    apply Array.ext'
    simp only [Array.toList_modify, List.map_append, List.map_cons]
    have h8 := mod_mid (fun x : MapEntry => { x with key := sA e.k, val := v }) (A.map em) (em e) (C.map em)
    rw [List.length_map] at h8
    rw [h8]
    rfl
  have h6 : (Instr.keyThatStays (sA e.k) (sA e.k)).run Tryz.prog w = .ok (sA e.k) w := by simp [Instr.keyThatStays, bits_s]
  simp only [Instr.mapUpdate, Sem.run_bind, run_underlying hu, Result.andThen_ok, MapKept.run_getObj_map h.blk, ckeyS (h.wf e he), h1, h4, Option.map_some, Option.getD_some]
  have h7 : (em e).key = sA e.k := rfl
  rw [h7, h6]
  simp only [Result.andThen_ok, h5, MapKept.run_setObj_map _ h.blk]
  rw [h3]
  rfl
theorem Mb.push {w : World} {m clock : Nat} {E : List Ent} (h : Mb w m clock E) {k : Ss} (hk : sW k) (hn : ∀ e ∈ E, e.k ≠ k) (v : Value) : Mb (setOb w m (.map ((E ++ [(⟨k, v, clock⟩ : Ent)]).map em).toArray (clock + 1))) m (clock + 1) (E ++ [(⟨k, v, clock⟩ : Ent)]) := by
  refine ⟨setOb_same (Array.getElem?_eq_some_iff.1 h.blk).1, ?_, ?_, fun e he => ?_, fun e he => ?_⟩
  · rw [List.map_append]
    refine List.nodup_append.mpr ⟨h.nd, by simp, fun a ha b hb e => ?_⟩
    obtain ⟨z, hz, rfl⟩ := List.mem_map.mp ha
    simp at hb
    exact hn z hz (e.trans hb)
  · rw [List.map_append]
    refine List.nodup_append.mpr ⟨h.bn, by simp, fun a ha b hb e => ?_⟩
    obtain ⟨z, hz, rfl⟩ := List.mem_map.mp ha
    simp at hb
    have := h.bl z hz
    omega
  · rcases List.mem_append.mp he with he | he
    · have := h.bl e he; omega
    · simp at he; subst he; show clock < clock + 1; omega
  · rcases List.mem_append.mp he with he | he
    · exact h.wf e he
    · simp at he; subst he; exact hk
theorem setK_k (k : Ss) (v : Value) (E : List Ent) : (setK k v E).map Ent.k = E.map Ent.k ∧ (setK k v E).map Ent.b = E.map Ent.b := by
  unfold setK
  rw [List.map_map, List.map_map]
  refine ⟨List.map_congr_left (fun e _ => ?_), List.map_congr_left (fun e _ => ?_)⟩
  · simp only [Function.comp]; split <;> rfl
  · simp only [Function.comp]; split <;> rfl
theorem mem_setK {k : Ss} {v : Value} {E : List Ent} {e : Ent} (h : e ∈ setK k v E) : (e ∈ E ∧ e.k ≠ k) ∨ (e.k = k ∧ e.v = v ∧ ∃ v0, (⟨e.k, v0, e.b⟩ : Ent) ∈ E) := by
  obtain ⟨z, hz, rfl⟩ := List.mem_map.mp h
  by_cases e : z.k = k
  · rw [if_pos e]; exact .inr ⟨e, rfl, z.v, hz⟩
  · rw [if_neg e]; exact .inl ⟨hz, e⟩
theorem Mb.set {w : World} {m clock : Nat} {E : List Ent} (h : Mb w m clock E) (k : Ss) (v : Value) : Mb (setOb w m (.map ((setK k v E).map em).toArray clock)) m clock (setK k v E) := by
  refine ⟨setOb_same (Array.getElem?_eq_some_iff.1 h.blk).1, by rw [(setK_k k v E).1]; exact h.nd, by rw [(setK_k k v E).2]; exact h.bn, fun e he => ?_, fun e he => ?_⟩
  · rcases mem_setK he with ⟨h1, _⟩ | ⟨_, _, v0, h1⟩
    · exact h.bl e h1
    · exact h.bl (⟨e.k, v0, e.b⟩ : Ent) h1
  · rcases mem_setK he with ⟨h1, _⟩ | ⟨_, _, v0, h1⟩
    · exact h.wf e h1
    · exact h.wf (⟨e.k, v0, e.b⟩ : Ent) h1
def noS (k : Ss) (E : List Ent) : List Ent := E.filter fun e => decide (e.k ≠ k)
theorem mem_noS {k : Ss} {E : List Ent} {e : Ent} : e ∈ noS k E ↔ e ∈ E ∧ e.k ≠ k := by simp [noS]
theorem noS_self {k : Ss} {E : List Ent} (h : ∀ e ∈ E, e.k ≠ k) : noS k E = E := List.filter_eq_self.mpr (fun e he => by simpa using h e he)
set_option maxRecDepth 100000 in
theorem delB {mt et : TypeId} (hu : Tryz.prog.underlying mt = some (.map 31 et)) {w : World} {m clock : Nat} {E : List Ent} (h : Mb w m clock E) {k : Ss} (hk : sW k) (ty : TypeId) : (Builtin.delete_ #[mt, 31] ty #[.map (some m), sA k]).run Tryz.prog w = .ok (.tuple #[]) (setOb w m (.map ((noS k E).map em).toArray clock)) := by
  by_cases hn : ∀ e ∈ E, e.k ≠ k
  · have h1 := find0 hk w E (fun e he => ⟨h.wf e he, hn e he⟩)
    rw [noS_self hn]
    simp only [Builtin.delete_, Sem.run_bind, run_underlying hu, MapKept.run_getObj_map h.blk, Result.andThen_ok, ckeyS hk, h1, MapKept.run_setObj_map _ h.blk, Sem.run_pure, List.getElem?_toArray, List.getElem?_cons_zero, List.getElem?_cons_succ]
    first | rfl | simp [setOb]
  · have : ∃ e ∈ E, e.k = k := Classical.byContradiction fun hn2 => hn (fun e he e2 => hn2 ⟨e, he, e2⟩)
    obtain ⟨e, he, rfl⟩ := this
    obtain ⟨A, C, rfl, hA, hC⟩ := h.split he
    have h1 := find1 hk w e.v e.b A C hA
    have h2 : (A ++ (⟨e.k, e.v, e.b⟩ : Ent) :: C) = A ++ e :: C := rfl
    have h3 : noS e.k (A ++ e :: C) = A ++ C := by
      have a1 : noS e.k A = A := noS_self (fun z hz => (hA z hz).2)
      have a2 : noS e.k C = C := noS_self hC
      unfold noS at *
      rw [List.filter_append, List.filter_cons, a1, a2]
      simp
    rw [h3]
    rw [h2] at h1
    have h4 : ((List.map em (A ++ e :: C)).toArray).eraseIdxIfInBounds A.length = ((A ++ C).map em).toArray := by
      rw [List.eraseIdxIfInBounds_toArray]
      refine congrArg List.toArray ?_
      rw [List.map_append, List.map_cons, List.eraseIdx_append_of_length_le (by simp)]
      simp
    simp only [Builtin.delete_, Sem.run_bind, run_underlying hu, MapKept.run_getObj_map h.blk, Result.andThen_ok, ckeyS hk, h1, h4, MapKept.run_setObj_map _ h.blk, Sem.run_pure, List.getElem?_toArray, List.getElem?_cons_zero, List.getElem?_cons_succ]
    first | rfl | simp [setOb]
theorem Mb.del {w : World} {m clock : Nat} {E : List Ent} (h : Mb w m clock E) (k : Ss) : Mb (setOb w m (.map ((noS k E).map em).toArray clock)) m clock (noS k E) :=
  ⟨setOb_same (Array.getElem?_eq_some_iff.1 h.blk).1, List.Nodup.sublist (List.Sublist.map _ List.filter_sublist) h.nd, List.Nodup.sublist (List.Sublist.map _ List.filter_sublist) h.bn, fun e he => h.bl e (mem_noS.mp he).1, fun e he => h.wf e (mem_noS.mp he).1⟩
theorem nextB {w : World} {m clock r : Nat} {E : List Ent} {seen : Array Nat} (h : Mb w m clock E) (hr : w.heap[r]? = some (.mapIter (some m) clock seen clock)) (ty : TypeId) :
    ((∀ e ∈ E, e.b ∈ seen.toList) ∧ (Instr.next (.pointer (some ⟨r, 0, none⟩)) false ty).run Tryz.prog w = .ok (.tuple #[.bool false]) w) ∨
    ∃ e ∈ E, e.b ∉ seen.toList ∧ ∃ w1 : World, (w1 = w ∨ w1 = w.drew) ∧ (Instr.next (.pointer (some ⟨r, 0, none⟩)) false ty).run Tryz.prog w = .ok (.tuple #[.bool true, sA e.k, e.v]) (setOb w1 r (.mapIter (some m) clock (seen.push e.b) clock)) := by
  have hold : ∀ x ∈ ((E.map em).toArray).toList, x.born < clock := fun x hx => by
    simp at hx
    obtain ⟨e, he, rfl⟩ := hx
    exact h.bl e he
  rcases run_next_at (P := Tryz.prog) w ty r m clock clock seen _ clock hr h.blk hold (Nat.le_refl _) with ⟨h1, h2⟩ | ⟨e', he, w1, hw, h2⟩
  · refine .inl ⟨fun e he => ?_, h2⟩
    unfold leftOf at h1
    have h3 := Array.eq_empty_of_size_eq_zero h1
    rw [Array.filter_eq_empty_iff] at h3
    have h4 := h3 (em e) (by simp; exact ⟨e, he, rfl⟩)
    simpa [em] using h4
  · unfold leftOf at he
    simp at he
    obtain ⟨⟨e, he1, rfl⟩, he2⟩ := he
    exact .inr ⟨e, he1, by simpa [em] using he2, w1, hw, h2⟩

end Go.Proofs.YtillgoegiplmkaaGreatDoor.B
