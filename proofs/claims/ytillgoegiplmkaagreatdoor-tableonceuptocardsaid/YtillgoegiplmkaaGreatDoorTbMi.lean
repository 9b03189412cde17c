import Derived.Test.YtillgoegiplmkaaGreatDoorTbMp
namespace Go.Proofs.YtillgoegiplmkaaGreatDoor.B
open Go.RowKit Go.Maps
set_option linter.unusedVariables false
set_option linter.unusedSimpArgs false

/-! ## Maps keyed by ints, of any elements: lists of entries -/
abbrev iA (k : Int) : Value := .int .i64 k
def iT (_ : Int) : Prop := True
structure EnI where
  k : Int
  v : Value
  b : Nat
def emI (e : EnI) : MapEntry := ⟨iA e.k, e.v, e.b⟩
structure Mj (w : World) (m clock : Nat) (E : List EnI) : Prop where
  blk : w.heap[m]? = some (.map (E.map emI).toArray clock)
  nd : (E.map EnI.k).Nodup
  bn : (E.map EnI.b).Nodup
  bl : ∀ e ∈ E, e.b < clock
  wf : ∀ e ∈ E, iT e.k
theorem nowI0 (k : Int) : ∀ (E : List EnI) (i : Nat), (∀ e ∈ E, e.k ≠ k) → Instr.findNow (.int .i64) (.int .i64 k) (E.map emI) i = some none
  | [], i, h => rfl
  | e :: r, i, h => by
    have h1 : (k == e.k) = false := by have := h e List.mem_cons_self; simp; exact fun h => this h.symm
    show (match Instr.sameNow (.int .i64) (.int .i64 k) (.int .i64 e.k) with
      | some true => some (some (i, (emI e).val))
      | some false => Instr.findNow (.int .i64) (.int .i64 k) (r.map emI) (i + 1)
      | none => none) = _
    simp only [Instr.sameNow, if_true, h1]
    exact nowI0 k r (i + 1) (fun e he => h e (List.mem_cons_of_mem _ he))
theorem nowI1 (k : Int) (v : Value) (b : Nat) : ∀ (A C : List EnI) (i : Nat), (∀ e ∈ A, e.k ≠ k) → Instr.findNow (.int .i64) (.int .i64 k) ((A ++ (⟨k, v, b⟩ : EnI) :: C).map emI) i = some (some (i + A.length, v))
  | [], C, i, h => by
    show (match Instr.sameNow (.int .i64) (.int .i64 k) (.int .i64 k) with
      | some true => some (some (i, v))
      | some false => Instr.findNow (.int .i64) (.int .i64 k) (C.map emI) (i + 1)
      | none => none) = _
    simp [Instr.sameNow]
  | e :: r, C, i, h => by
    have h1 : (k == e.k) = false := by have := h e List.mem_cons_self; simp; exact fun h => this h.symm
    show (match Instr.sameNow (.int .i64) (.int .i64 k) (.int .i64 e.k) with
      | some true => some (some (i, (emI e).val))
      | some false => Instr.findNow (.int .i64) (.int .i64 k) ((r ++ (⟨k, v, b⟩ : EnI) :: C).map emI) (i + 1)
      | none => none) = _
    simp only [Instr.sameNow, if_true, h1]
    rw [nowI1 k v b r C (i + 1) (fun e he => h e (List.mem_cons_of_mem _ he))]
    simp only [List.length_cons]
    congr 3
    omega
theorem findI0 {k : Int} (hk : iT k) (w : World) (E : List EnI) (h : ∀ e ∈ E, iT e.k ∧ e.k ≠ k) : (Instr.findKey 3 (iA k) (E.map emI)).run Tryz.prog w = .ok none w := by
  simp [Instr.findKey, run_underlying Tryz.underlying3, nowI0 k E 0 (fun e he => (h e he).2)]
theorem findI1 {k : Int} (hk : iT k) (w : World) (v : Value) (b : Nat) (A C : List EnI) (h : ∀ e ∈ A, iT e.k ∧ e.k ≠ k) : (Instr.findKey 3 (iA k) ((A ++ (⟨k, v, b⟩ : EnI) :: C).map emI)).run Tryz.prog w = .ok (some (A.length, v)) w := by
  have := nowI1 k v b A C 0 (fun e he => (h e he).2)
  rw [Nat.zero_add] at this
  simp only [Instr.findKey, Sem.run_bind, run_underlying Tryz.underlying3, Result.andThen, this]
  rfl
theorem ckeyI {k : Int} (hk : iT k) (w : World) (e : Bool) : (Instr.checkKey e 10000 3 (iA k)).run Tryz.prog w = .ok () w := by
  exact MapKept.run_checkKey Tryz.underlying3 (by simp [MapKept.IsKey]) e 9999
theorem bits_i (k : Int) : Instr.sameBits 10000 (iA k) (iA k) = true := by simp [Instr.sameBits]
theorem Mj.split {w : World} {m clock : Nat} {E : List EnI} (h : Mj w m clock E) {e : EnI} (he : e ∈ E) : ∃ A C, E = A ++ e :: C ∧ (∀ z ∈ A, iT z.k ∧ z.k ≠ e.k) ∧ (∀ z ∈ C, z.k ≠ e.k) := by
  obtain ⟨A, C, rfl⟩ := List.append_of_mem he
  have hn := h.nd
  rw [List.map_append, List.map_cons, List.nodup_append] at hn
  refine ⟨A, C, rfl, fun z hz => ⟨h.wf z (List.mem_append.mpr (.inl hz)), fun e2 => ?_⟩, fun z hz e2 => ?_⟩
  · exact hn.2.2 z.k (List.mem_map.mpr ⟨z, hz, rfl⟩) e.k List.mem_cons_self e2
  · exact (List.nodup_cons.mp hn.2.1).1 (List.mem_map.mpr ⟨z, hz, e2⟩)
set_option maxRecDepth 100000 in
theorem lookI0 {mt et : TypeId} (hu : Tryz.prog.underlying mt = some (.map 3 et)) {z : Value} {w : World} (hz : (zeroValue et).run Tryz.prog w = .ok z w) {m clock : Nat} {E : List EnI} (h : Mj w m clock E) {k : Int} (hk : iT k) (hn : ∀ e ∈ E, e.k ≠ k) (c : Bool) : (Instr.lookup mt (.map (some m)) (iA k) c).run Tryz.prog w = .ok (if c then .tuple #[z, .bool false] else z) w := by
  have h1 := findI0 hk w E (fun e he => ⟨h.wf e he, hn e he⟩)
  simp only [Instr.lookup, Sem.run_bind, run_underlying hu, Result.andThen_ok, MapKept.run_getObj_map h.blk, Sem.run_pure, ckeyI hk, h1, hz]
set_option maxRecDepth 100000 in
theorem lookI1 {mt et : TypeId} (hu : Tryz.prog.underlying mt = some (.map 3 et)) {w : World} {m clock : Nat} {E : List EnI} (h : Mj w m clock E) {e : EnI} (he : e ∈ E) (c : Bool) : (Instr.lookup mt (.map (some m)) (iA e.k) c).run Tryz.prog w = .ok (if c then .tuple #[e.v, .bool true] else e.v) w := by
  obtain ⟨A, C, rfl, hA, _⟩ := h.split he
  have h1 := findI1 (h.wf e he) w e.v e.b A C hA
  have h2 : (A ++ (⟨e.k, e.v, e.b⟩ : EnI) :: C) = A ++ e :: C := rfl
  rw [h2] at h1
  simp only [Instr.lookup, Sem.run_bind, run_underlying hu, Result.andThen_ok, MapKept.run_getObj_map h.blk, Sem.run_pure, ckeyI (h.wf e he), h1]

set_option maxRecDepth 100000 in
theorem updI0 {mt et : TypeId} (hu : Tryz.prog.underlying mt = some (.map 3 et)) {w : World} {m clock : Nat} {E : List EnI} (h : Mj w m clock E) {k : Int} (hk : iT k) (hn : ∀ e ∈ E, e.k ≠ k) (v : Value) : (Instr.mapUpdate mt (.map (some m)) (iA k) v).run Tryz.prog w = .ok () (setOb w m (.map ((E ++ [(⟨k, v, clock⟩ : EnI)]).map emI).toArray (clock + 1))) := by
  have h1 := findI0 hk w E (fun e he => ⟨h.wf e he, hn e he⟩)
  have h2 : (List.map emI E).toArray.push ⟨iA k, v, clock⟩ = ((E ++ [(⟨k, v, clock⟩ : EnI)]).map emI).toArray := by simp [emI]
  simp only [Instr.mapUpdate, Sem.run_bind, run_underlying hu, Result.andThen_ok, MapKept.run_getObj_map h.blk, ckeyI hk, h1, MapKept.run_setObj_map _ h.blk]
  rw [h2]
  rfl
def setI (k : Int) (v : Value) (E : List EnI) : List EnI := E.map fun e => if e.k = k then ⟨e.k, v, e.b⟩ else e
theorem setI_split {k : Int} {v v0 : Value} {b : Nat} {A C : List EnI} (hA : ∀ z ∈ A, z.k ≠ k) (hC : ∀ z ∈ C, z.k ≠ k) : setI k v (A ++ (⟨k, v0, b⟩ : EnI) :: C) = A ++ (⟨k, v, b⟩ : EnI) :: C := by
  have f : ∀ l : List EnI, (∀ z ∈ l, z.k ≠ k) → setI k v l = l := fun l hl => by
    unfold setI
    have h1 : l.map (fun e : EnI => if e.k = k then (⟨e.k, v, e.b⟩ : EnI) else e) = l.map id := List.map_congr_left (fun z hz => if_neg (hl z hz))
    rw [h1, List.map_id]
  have a1 := f A hA
  have a2 := f C hC
  unfold setI at *
  rw [List.map_append, List.map_cons, a1, a2]
  simp
set_option maxRecDepth 100000 in
theorem updI1 {mt et : TypeId} (hu : Tryz.prog.underlying mt = some (.map 3 et)) {w : World} {m clock : Nat} {E : List EnI} (h : Mj w m clock E) {e : EnI} (he : e ∈ E) (v : Value) : (Instr.mapUpdate mt (.map (some m)) (iA e.k) v).run Tryz.prog w = .ok () (setOb w m (.map ((setI e.k v E).map emI).toArray clock)) := by
  obtain ⟨A, C, rfl, hA, hC⟩ := h.split he
  have h1 := findI1 (h.wf e he) w e.v e.b A C hA
  have h2 : (A ++ (⟨e.k, e.v, e.b⟩ : EnI) :: C) = A ++ e :: C := rfl
  rw [h2] at h1
  have h3 : setI e.k v (A ++ e :: C) = A ++ (⟨e.k, v, e.b⟩ : EnI) :: C := setI_split (v0 := e.v) (fun z hz => (hA z hz).2) hC
  have h4 : ((List.map emI (A ++ e :: C)).toArray[A.length]?) = some (emI e) := by simp
  have h5 : ((List.map emI (A ++ e :: C)).toArray).modify A.length (fun x => { x with key := iA e.k, val := v }) = ((A ++ (⟨e.k, v, e.b⟩ : EnI) :: C).map emI).toArray := by
    apply Array.ext'
    simp only [Array.toList_modify, List.map_append, List.map_cons]
    have h8 := mod_mid (fun x : MapEntry => { x with key := iA e.k, val := v }) (A.map emI) (emI e) (C.map emI)
    rw [List.length_map] at h8
    rw [h8]
    rfl
  have h6 : (Instr.keyThatStays (iA e.k) (iA e.k)).run Tryz.prog w = .ok (iA e.k) w := by simp [Instr.keyThatStays, bits_i]
  simp only [Instr.mapUpdate, Sem.run_bind, run_underlying hu, Result.andThen_ok, MapKept.run_getObj_map h.blk, ckeyI (h.wf e he), h1, h4, Option.map_some, Option.getD_some]
  have h7 : (emI e).key = iA e.k := rfl
  rw [h7, h6]
  simp only [Result.andThen_ok, h5, MapKept.run_setObj_map _ h.blk]
  rw [h3]
  rfl
theorem Mj.push {w : World} {m clock : Nat} {E : List EnI} (h : Mj w m clock E) {k : Int} (hk : iT k) (hn : ∀ e ∈ E, e.k ≠ k) (v : Value) : Mj (setOb w m (.map ((E ++ [(⟨k, v, clock⟩ : EnI)]).map emI).toArray (clock + 1))) m (clock + 1) (E ++ [(⟨k, v, clock⟩ : EnI)]) := by
  refine ⟨setOb_same (Array.getElem?_eq_some_iff.1 h.blk).1, ?_, ?_, fun e he => ?_, fun e he => ?_⟩
  · rw [List.map_append]
    refine List.nodup_append.mpr ⟨h.nd, by simp, fun a ha b hb e => ?_⟩
    obtain ⟨z, hz, rfl⟩ := List.mem_map.mp ha
    simp at hb
    exact hn z hz (e.trans hb)
  · rw [List.map_append]
    refine List.nodup_append.mpr ⟨h.bn, by simp, fun a ha b hb e => ?_⟩
    obtain ⟨z, hz, rfl⟩ := List.mem_map.mp ha
    simp at hb
    have := h.bl z hz
    omega
  · rcases List.mem_append.mp he with he | he
    · have := h.bl e he; omega
    · simp at he; subst he; show clock < clock + 1; omega
  · rcases List.mem_append.mp he with he | he
    · exact h.wf e he
    · simp at he; subst he; exact hk
theorem setI_k (k : Int) (v : Value) (E : List EnI) : (setI k v E).map EnI.k = E.map EnI.k ∧ (setI k v E).map EnI.b = E.map EnI.b := by
  unfold setI
  rw [List.map_map, List.map_map]
  refine ⟨List.map_congr_left (fun e _ => ?_), List.map_congr_left (fun e _ => ?_)⟩
  · simp only [Function.comp]; split <;> rfl
  · simp only [Function.comp]; split <;> rfl
theorem mem_setI {k : Int} {v : Value} {E : List EnI} {e : EnI} (h : e ∈ setI k v E) : (e ∈ E ∧ e.k ≠ k) ∨ (e.k = k ∧ e.v = v ∧ ∃ v0, (⟨e.k, v0, e.b⟩ : EnI) ∈ E) := by
  obtain ⟨z, hz, rfl⟩ := List.mem_map.mp h
  by_cases e : z.k = k
  · rw [if_pos e]; exact .inr ⟨e, rfl, z.v, hz⟩
  · rw [if_neg e]; exact .inl ⟨hz, e⟩
theorem Mj.set {w : World} {m clock : Nat} {E : List EnI} (h : Mj w m clock E) (k : Int) (v : Value) : Mj (setOb w m (.map ((setI k v E).map emI).toArray clock)) m clock (setI k v E) := by
  refine ⟨setOb_same (Array.getElem?_eq_some_iff.1 h.blk).1, by rw [(setI_k k v E).1]; exact h.nd, by rw [(setI_k k v E).2]; exact h.bn, fun e he => ?_, fun e he => ?_⟩
  · rcases mem_setI he with ⟨h1, _⟩ | ⟨_, _, v0, h1⟩
    · exact h.bl e h1
    · exact h.bl (⟨e.k, v0, e.b⟩ : EnI) h1
  · rcases mem_setI he with ⟨h1, _⟩ | ⟨_, _, v0, h1⟩
    · exact h.wf e h1
    · exact h.wf (⟨e.k, v0, e.b⟩ : EnI) h1
def noI (k : Int) (E : List EnI) : List EnI := E.filter fun e => decide (e.k ≠ k)
theorem nextI {w : World} {m clock r : Nat} {E : List EnI} {seen : Array Nat} (h : Mj w m clock E) (hr : w.heap[r]? = some (.mapIter (some m) clock seen clock)) (ty : TypeId) :
    ((∀ e ∈ E, e.b ∈ seen.toList) ∧ (Instr.next (.pointer (some ⟨r, 0, none⟩)) false ty).run Tryz.prog w = .ok (.tuple #[.bool false]) w) ∨
    ∃ e ∈ E, e.b ∉ seen.toList ∧ ∃ w1 : World, (w1 = w ∨ w1 = w.drew) ∧ (Instr.next (.pointer (some ⟨r, 0, none⟩)) false ty).run Tryz.prog w = .ok (.tuple #[.bool true, iA e.k, e.v]) (setOb w1 r (.mapIter (some m) clock (seen.push e.b) clock)) := by
  have hold : ∀ x ∈ ((E.map emI).toArray).toList, x.born < clock := fun x hx => by
    simp at hx
    obtain ⟨e, he, rfl⟩ := hx
    exact h.bl e he
  rcases run_next_at (P := Tryz.prog) w ty r m clock clock seen _ clock hr h.blk hold (Nat.le_refl _) with ⟨h1, h2⟩ | ⟨e', he, w1, hw, h2⟩
  · refine .inl ⟨fun e he => ?_, h2⟩
    unfold leftOf at h1
    have h3 := Array.eq_empty_of_size_eq_zero h1
    rw [Array.filter_eq_empty_iff] at h3
    have h4 := h3 (emI e) (by simp; exact ⟨e, he, rfl⟩)
    simpa [emI] using h4
  · unfold leftOf at he
    simp at he
    obtain ⟨⟨e, he1, rfl⟩, he2⟩ := he
    exact .inr ⟨e, he1, by simpa [emI] using he2, w1, hw, h2⟩



end Go.Proofs.YtillgoegiplmkaaGreatDoor.B
