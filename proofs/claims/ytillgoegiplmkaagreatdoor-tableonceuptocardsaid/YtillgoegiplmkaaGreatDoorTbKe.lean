import Derived.Test.YtillgoegiplmkaaGreatDoorTbMw
import Derived.Test.YtillgoegiplmkaaGreatDoorGat
import Derived.LoopNIn
import Derived.LoopIn
namespace Go.Proofs.YtillgoegiplmkaaGreatDoor.B
open C
open Go.RowKit Go.Maps
set_option linter.unusedVariables false
set_option linter.unusedSimpArgs false

/-! ## The keys of a map, one by one -/
theorem nd_inj {α β : Type} {f : α → β} : ∀ {l : List α}, (l.map f).Nodup → ∀ {a b : α}, a ∈ l → b ∈ l → f a = f b → a = b
  | [], _, _, _, ha, _, _ => by cases ha
  | x :: r, h, a, b, ha, hb, e => by
    rw [List.map_cons, List.nodup_cons] at h
    rcases List.mem_cons.mp ha with rfl | ha
    · rcases List.mem_cons.mp hb with rfl | hb
      · rfl
      · exact absurd (List.mem_map.mpr ⟨b, hb, e.symm⟩) h.1
    · rcases List.mem_cons.mp hb with q | hb
      · rw [q] at e
        exact absurd (List.mem_map.mpr ⟨a, ha, e⟩) h.1
      · exact nd_inj h.2 ha hb e

/-- What came, of what a range has seen. -/
structure CmB (E : List Ent) (seen : Array Nat) (pre : List (Int × Int)) : Prop where
  s : ∀ e ∈ E, e.b ∈ seen.toList ↔ e.k ∈ pre
  nd : pre.Nodup
  m : ∀ k ∈ pre, k ∈ E.map Ent.k
theorem CmB.start (E : List Ent) : CmB E #[] [] := ⟨fun e _ => by simp, List.Pairwise.nil, fun k hk => by cases hk⟩
theorem CmB.step {w : World} {m clock : Nat} {E : List Ent} {seen : Array Nat} {pre : List (Int × Int)} (h : CmB E seen pre) (hM : Mb w m clock E) {e : Ent} (he : e ∈ E) (hb : e.b ∉ seen.toList) : CmB E (seen.push e.b) (pre ++ [e.k]) := by
  have hk : e.k ∉ pre := fun q => hb ((h.s e he).mpr q)
  refine ⟨fun x hx => ?_, ?_, fun k q => ?_⟩
  · rw [Array.toList_push, List.mem_append, List.mem_append, h.s x hx]
    simp only [List.mem_singleton]
    refine or_congr Iff.rfl ⟨fun q => ?_, fun q => ?_⟩
    · rw [nd_inj hM.bn hx he q]
    · rw [nd_inj hM.nd hx he q]
  · rw [List.nodup_append]
    refine ⟨h.nd, by simp, fun a ha b q => ?_⟩
    simp at q
    subst q
    exact fun e => hk (e ▸ ha)
  · rcases List.mem_append.mp q with q | q
    · exact h.m k q
    · simp at q
      subst q
      exact List.mem_map.mpr ⟨e, he, rfl⟩
theorem CmB.len {w : World} {m clock : Nat} {E : List Ent} {seen : Array Nat} {pre : List (Int × Int)} (h : CmB E seen pre) : pre.length ≤ E.length := by
  have := List.Nodup.length_le_of_subset h.nd (fun k hk => h.m k hk)
  simpa using this
theorem CmB.perm {w : World} {m clock : Nat} {E : List Ent} {seen : Array Nat} {pre : List (Int × Int)} (h : CmB E seen pre) (hM : Mb w m clock E) (ha : ∀ e ∈ E, e.b ∈ seen.toList) : pre.Perm (E.map Ent.k) := by
  refine (List.perm_ext_iff_of_nodup h.nd hM.nd).2 fun k => ⟨h.m k, fun q => ?_⟩
  obtain ⟨e, he, rfl⟩ := List.mem_map.mp q
  exact (h.s e he).mp (ha e he)
theorem entryB {w : World} {m clock r : Nat} {E : List Ent} {seen : Array Nat} (h : Mb w m clock E) {e : Ent} (he : e ∈ E) (hr : w.heap[r]? = some (.mapIter (some m) clock (seen.push e.b) clock)) :
    (Instr.entry (.pointer (some ⟨r, 0, none⟩))).run Tryz.prog w = .ok (.tuple #[sA e.k, e.v]) w :=
  run_entry_at (P := Tryz.prog) w r m clock seen _ clock (em e) hr h.blk (by simp; exact ⟨e, he, rfl⟩) (by
    have h1 : ((fun x : MapEntry => x.born) ∘ em) = Ent.b := rfl
    rw [List.map_map, h1]
    exact h.bn)

/-- What came, of what a range has seen. -/
structure CmI (E : List EnI) (seen : Array Nat) (pre : List (Int)) : Prop where
  s : ∀ e ∈ E, e.b ∈ seen.toList ↔ e.k ∈ pre
  nd : pre.Nodup
  m : ∀ k ∈ pre, k ∈ E.map EnI.k
theorem CmI.start (E : List EnI) : CmI E #[] [] := ⟨fun e _ => by simp, List.Pairwise.nil, fun k hk => by cases hk⟩
theorem CmI.step {w : World} {m clock : Nat} {E : List EnI} {seen : Array Nat} {pre : List (Int)} (h : CmI E seen pre) (hM : Mj w m clock E) {e : EnI} (he : e ∈ E) (hb : e.b ∉ seen.toList) : CmI E (seen.push e.b) (pre ++ [e.k]) := by
  have hk : e.k ∉ pre := fun q => hb ((h.s e he).mpr q)
  refine ⟨fun x hx => ?_, ?_, fun k q => ?_⟩
  · rw [Array.toList_push, List.mem_append, List.mem_append, h.s x hx]
    simp only [List.mem_singleton]
    refine or_congr Iff.rfl ⟨fun q => ?_, fun q => ?_⟩
    · rw [nd_inj hM.bn hx he q]
    · rw [nd_inj hM.nd hx he q]
  · rw [List.nodup_append]
    refine ⟨h.nd, by simp, fun a ha b q => ?_⟩
    simp at q
    subst q
    exact fun e => hk (e ▸ ha)
  · rcases List.mem_append.mp q with q | q
    · exact h.m k q
    · simp at q
      subst q
      exact List.mem_map.mpr ⟨e, he, rfl⟩
theorem CmI.len {w : World} {m clock : Nat} {E : List EnI} {seen : Array Nat} {pre : List (Int)} (h : CmI E seen pre) : pre.length ≤ E.length := by
  have := List.Nodup.length_le_of_subset h.nd (fun k hk => h.m k hk)
  simpa using this
theorem CmI.perm {w : World} {m clock : Nat} {E : List EnI} {seen : Array Nat} {pre : List (Int)} (h : CmI E seen pre) (hM : Mj w m clock E) (ha : ∀ e ∈ E, e.b ∈ seen.toList) : pre.Perm (E.map EnI.k) := by
  refine (List.perm_ext_iff_of_nodup h.nd hM.nd).2 fun k => ⟨h.m k, fun q => ?_⟩
  obtain ⟨e, he, rfl⟩ := List.mem_map.mp q
  exact (h.s e he).mp (ha e he)
theorem entryI {w : World} {m clock r : Nat} {E : List EnI} {seen : Array Nat} (h : Mj w m clock E) {e : EnI} (he : e ∈ E) (hr : w.heap[r]? = some (.mapIter (some m) clock (seen.push e.b) clock)) :
    (Instr.entry (.pointer (some ⟨r, 0, none⟩))).run Tryz.prog w = .ok (.tuple #[iA e.k, e.v]) w :=
  run_entry_at (P := Tryz.prog) w r m clock seen _ clock (emI e) hr h.blk (by simp; exact ⟨e, he, rfl⟩) (by
    have h1 : ((fun x : MapEntry => x.born) ∘ emI) = EnI.b := rfl
    rw [List.map_map, h1]
    exact h.bn)

set_option maxRecDepth 100000 in
set_option maxHeartbeats 4000000 in
/-- The iterator over a map's keys. -/
theorem keysX1_in (n : Nat) (hn : 1 ≤ n) (l Bm m clock : Nat) (E : List Ent) (J Jx : List (Int × Int) → World → Prop) (W : World) (hJ : AbidesFrom W.heap.size J)
    (hY : ∀ pre (x : Int × Int) W1, J pre W1 → pre.length < E.length → YieldAt Fence.wide (n - 1) Tryz.prog l #[sA x] W1 fun e W' => (e = .returned (.bool true) ∧ J (pre ++ [x]) W' ∧ KeepsWalks W1 W') ∨ (e = .returned (.bool false) ∧ Jx (pre ++ [x]) W'))
    (hm : W.cell? ⟨Bm, 0, none⟩ = some (.map (some m))) (hM : Mb W m clock E) (h0 : J [] W) :
    CallsIn Fence.wide n Tryz.prog 146 #[.func (.yield l) #[] #[], .pointer (some ⟨Bm, 0, none⟩)] W fun e W' => (∃ v, e = .returned v) ∧ ((∃ ys, ys.Perm (E.map Ent.k) ∧ J ys W') ∨ (∃ pre, True ∧ Jx pre W')) := by
  have hR : (Instr.range 68 (.map (some m))).run Tryz.prog W = .ok (.pointer (some ⟨W.heap.size, 0, none⟩)) (W.alloc (.mapIter (some m) clock #[] clock)) := by
    simp [Instr.range, run_underlying Tryz.underlying68, MapKept.run_getObj_map hM.blk]
  refine callsIn_of_wp Tryz.func146 rfl trivial ?_ rfl
  simp only [Tryz.ntmps146, List.size_toArray, List.length_cons, List.length_nil, Nat.reduceAdd, Nat.reduceSub, Array.replicate_succ, Array.replicate_zero, List.push_toArray, List.append_toArray, List.nil_append, List.cons_append]
  have hml := (Array.getElem?_eq_some_iff.1 hM.blk).1
  have HI : Hid ((W.alloc (.mapIter (some m) clock #[] clock)).heap[W.heap.size]? = some (.mapIter (some m) clock #[] clock)) := heap_alloc_new' W _
  have HM : Hid (Mb (W.alloc (.mapIter (some m) clock #[] clock)) m clock E) := ⟨(Below.heap_alloc _ _ m hml).trans hM.blk, hM.nd, hM.bn, hM.bl, hM.wf⟩
  have HJ0 : Hid (J [] (W.alloc (.mapIter (some m) clock #[] clock))) := hJ [] W _ none h0 (grown_alloc _ _ _) (fun r e => by cases e)
  clear hM h0
  gi_wp2
  gi_loopw [3] (fun _ wr => ∃ (seen : Array Nat) (pre : List (Int × Int)), CmB E seen pre ∧ wr.heap[W.heap.size]? = some (.mapIter (some m) clock seen clock) ∧ Mb wr m clock E ∧ J pre wr ∧ pre.length = seen.size) (fun _ wr => E.length - (match wr.heap[W.heap.size]? with | some (.mapIter _ _ seen _) => seen.size | _ => 0))
  case atStart => exact ⟨#[], [], CmB.start E, HI.out, HM.out, HJ0.out, rfl⟩
  case round =>
    obtain ⟨seen, pre, hC, hit, hMr, hJr, hlen⟩ := hrel
    have HC : Hid (CmB E seen pre ∧ wr.heap[W.heap.size]? = some (.mapIter (some m) clock seen clock) ∧ Mb wr m clock E ∧ J pre wr ∧ pre.length = seen.size) := ⟨hC, hit, hMr, hJr, hlen⟩
    clear HI HM HJ0 hm hR
    rcases nextB hMr hit 0 with ⟨ha, hx⟩ | ⟨e, he, heb, w1, hw1, hx⟩
    · have HP : Hid (pre.Perm (E.map Ent.k)) := hC.perm hMr ha
      clear hC hit hMr hJr hlen ha
      gi_wp2
      go_end0
      exact ⟨⟨_, rfl⟩, .inl ⟨_, HP.out, HC.out.2.2.2.1⟩⟩
    · have hC2 := hC.step hMr he heb
      have hitl : W.heap.size < w1.heap.size := by
        rcases hw1 with rfl | rfl <;> exact (Array.getElem?_eq_some_iff.1 hit).1
      have hw1h : w1.heap = wr.heap := by rcases hw1 with rfl | rfl <;> rfl
      obtain ⟨w2, hw2⟩ : ∃ w2, setOb w1 W.heap.size (.mapIter (some m) clock (seen.push e.b) clock) = w2 := ⟨_, rfl⟩
      rw [hw2] at hx
      have hg2 : wr.grownBy w2 (some W.heap.size) := by
        have := setOb_grown w1 W.heap.size (.mapIter (some m) clock (seen.push e.b) clock)
        rw [hw2] at this
        rcases hw1 with rfl | rfl
        · exact this
        · exact ⟨this.os, this.tape, this.output, this.size, this.block⟩
      have hit2 : w2.heap[W.heap.size]? = some (.mapIter (some m) clock (seen.push e.b) clock) := by rw [← hw2]; exact setOb_same hitl
      have hmne : m ≠ W.heap.size := fun q => by have := hMr.blk; rw [q, hit] at this; cases this
      have hM2 : Mb w2 m clock E := ⟨by rw [← hw2, setOb_other hmne, hw1h]; exact hMr.blk, hMr.nd, hMr.bn, hMr.bl, hMr.wf⟩
      have hen := entryB hM2 he hit2
      have hlt : pre.length < E.length := by
        have := CmB.len (w := w2) (m := m) (clock := clock) hC2
        simp at this
        omega
      obtain ⟨⟨k1, k2⟩, ev, eb⟩ := e
      have hJ3 : J pre (w2.alloc (.cells #[.int .i64 k1, .int .i64 k2] 31)) := hJ pre wr _ (some W.heap.size) hJr (grown_trans hg2 (grown_alloc _ _ _)) (fun r q => by cases q; exact ⟨Nat.le_refl _, _, hit, rfl⟩)
      obtain ⟨fn2, tmps2, assign2, body2, hy2, hR2⟩ := hY pre (k1, k2) _ hJ3 hlt
      have HN : Hid (∀ V : World, KeepsWalks (w2.alloc (.cells #[.int .i64 k1, .int .i64 k2] 31)) V → J (pre ++ [(k1, k2)]) V → ∃ (seen : Array Nat) (pre : List (Int × Int)), CmB E seen pre ∧ V.heap[W.heap.size]? = some (.mapIter (some m) clock seen clock) ∧ Mb V m clock E ∧ J pre V ∧ pre.length = seen.size) := fun V hk hj =>
        ⟨_, _, hC2, hk.same _ _ ((Below.heap_alloc _ _ _ (Array.getElem?_eq_some_iff.1 hit2).1).trans hit2) rfl, ⟨hk.same _ _ ((Below.heap_alloc _ _ _ (Array.getElem?_eq_some_iff.1 hM2.blk).1).trans hM2.blk) rfl, hM2.nd, hM2.bn, hM2.bl, hM2.wf⟩, hj, by simp [hlen]⟩
      have HM : Hid (∀ V : World, KeepsWalks (w2.alloc (.cells #[.int .i64 k1, .int .i64 k2] 31)) V → E.length - (match V.heap[W.heap.size]? with | some (.mapIter _ _ seen _) => seen.size | _ => 0) < E.length - (match wr.heap[W.heap.size]? with | some (.mapIter _ _ seen _) => seen.size | _ => 0)) := fun V hk => by
        have e1 := hk.same _ _ ((Below.heap_alloc _ (.cells #[.int .i64 k1, .int .i64 k2] 31) _ (Array.getElem?_eq_some_iff.1 hit2).1).trans hit2) rfl
        rw [e1, hit]
        simp
        omega
      clear hC hit hMr hJr hlen hC2 hitl hw1h hw2 hg2 hit2 hmne hM2 hlt hJ3 heb he hw1 HC
      gi_wp2
      refine hR2.mono ?_
      rintro e W5 (⟨rfl, hJ5, hk5⟩ | ⟨rfl, hJx5⟩)
      · have HJ5 : Hid (J (pre ++ [(k1, k2)]) W5) := hJ5
        have HK5 : Hid (KeepsWalks (w2.alloc (.cells #[.int .i64 k1, .int .i64 k2] 31)) W5) := hk5
        clear hJ5 hk5
        gi_wp2
        go_roundw
        case rel => exact HN.out _ HK5.out HJ5.out
        case measure => exact HM.out _ HK5.out
      · gi_wp2
        refine bodyPost_ret (results_none rfl _ _ _) rfl ?_
        exact ⟨⟨_, rfl⟩, .inr ⟨_, trivial, hJx5⟩⟩

set_option maxRecDepth 100000 in
set_option maxHeartbeats 4000000 in
/-- The iterator over a map's keys. -/
theorem keysI1_in (n : Nat) (hn : 1 ≤ n) (l Bm m clock : Nat) (E : List Ent) (J Jx : List (Int × Int) → World → Prop) (W : World) (hJ : AbidesFrom W.heap.size J)
    (hY : ∀ pre (x : Int × Int) W1, J pre W1 → pre.length < E.length → YieldAt Fence.wide (n - 1) Tryz.prog l #[sA x] W1 fun e W' => (e = .returned (.bool true) ∧ J (pre ++ [x]) W' ∧ KeepsWalks W1 W') ∨ (e = .returned (.bool false) ∧ Jx (pre ++ [x]) W'))
    (hm : W.cell? ⟨Bm, 0, none⟩ = some (.map (some m))) (hM : Mb W m clock E) (h0 : J [] W) :
    CallsIn Fence.wide n Tryz.prog 148 #[.func (.yield l) #[] #[], .pointer (some ⟨Bm, 0, none⟩)] W fun e W' => (∃ v, e = .returned v) ∧ ((∃ ys, ys.Perm (E.map Ent.k) ∧ J ys W') ∨ (∃ pre, True ∧ Jx pre W')) := by
  have hR : (Instr.range 69 (.map (some m))).run Tryz.prog W = .ok (.pointer (some ⟨W.heap.size, 0, none⟩)) (W.alloc (.mapIter (some m) clock #[] clock)) := by
    simp [Instr.range, run_underlying Tryz.underlying69, MapKept.run_getObj_map hM.blk]
  refine callsIn_of_wp Tryz.func148 rfl trivial ?_ rfl
  simp only [Tryz.ntmps148, List.size_toArray, List.length_cons, List.length_nil, Nat.reduceAdd, Nat.reduceSub, Array.replicate_succ, Array.replicate_zero, List.push_toArray, List.append_toArray, List.nil_append, List.cons_append]
  have hml := (Array.getElem?_eq_some_iff.1 hM.blk).1
  have HI : Hid ((W.alloc (.mapIter (some m) clock #[] clock)).heap[W.heap.size]? = some (.mapIter (some m) clock #[] clock)) := heap_alloc_new' W _
  have HM : Hid (Mb (W.alloc (.mapIter (some m) clock #[] clock)) m clock E) := ⟨(Below.heap_alloc _ _ m hml).trans hM.blk, hM.nd, hM.bn, hM.bl, hM.wf⟩
  have HJ0 : Hid (J [] (W.alloc (.mapIter (some m) clock #[] clock))) := hJ [] W _ none h0 (grown_alloc _ _ _) (fun r e => by cases e)
  clear hM h0
  gi_wp2
  gi_loopw [3] (fun _ wr => ∃ (seen : Array Nat) (pre : List (Int × Int)), CmB E seen pre ∧ wr.heap[W.heap.size]? = some (.mapIter (some m) clock seen clock) ∧ Mb wr m clock E ∧ J pre wr ∧ pre.length = seen.size) (fun _ wr => E.length - (match wr.heap[W.heap.size]? with | some (.mapIter _ _ seen _) => seen.size | _ => 0))
  case atStart => exact ⟨#[], [], CmB.start E, HI.out, HM.out, HJ0.out, rfl⟩
  case round =>
    obtain ⟨seen, pre, hC, hit, hMr, hJr, hlen⟩ := hrel
    have HC : Hid (CmB E seen pre ∧ wr.heap[W.heap.size]? = some (.mapIter (some m) clock seen clock) ∧ Mb wr m clock E ∧ J pre wr ∧ pre.length = seen.size) := ⟨hC, hit, hMr, hJr, hlen⟩
    clear HI HM HJ0 hm hR
    rcases nextB hMr hit 0 with ⟨ha, hx⟩ | ⟨e, he, heb, w1, hw1, hx⟩
    · have HP : Hid (pre.Perm (E.map Ent.k)) := hC.perm hMr ha
      clear hC hit hMr hJr hlen ha
      gi_wp2
      go_end0
      exact ⟨⟨_, rfl⟩, .inl ⟨_, HP.out, HC.out.2.2.2.1⟩⟩
    · have hC2 := hC.step hMr he heb
      have hitl : W.heap.size < w1.heap.size := by
        rcases hw1 with rfl | rfl <;> exact (Array.getElem?_eq_some_iff.1 hit).1
      have hw1h : w1.heap = wr.heap := by rcases hw1 with rfl | rfl <;> rfl
      obtain ⟨w2, hw2⟩ : ∃ w2, setOb w1 W.heap.size (.mapIter (some m) clock (seen.push e.b) clock) = w2 := ⟨_, rfl⟩
      rw [hw2] at hx
      have hg2 : wr.grownBy w2 (some W.heap.size) := by
        have := setOb_grown w1 W.heap.size (.mapIter (some m) clock (seen.push e.b) clock)
        rw [hw2] at this
        rcases hw1 with rfl | rfl
        · exact this
        · exact ⟨this.os, this.tape, this.output, this.size, this.block⟩
      have hit2 : w2.heap[W.heap.size]? = some (.mapIter (some m) clock (seen.push e.b) clock) := by rw [← hw2]; exact setOb_same hitl
      have hmne : m ≠ W.heap.size := fun q => by have := hMr.blk; rw [q, hit] at this; cases this
      have hM2 : Mb w2 m clock E := ⟨by rw [← hw2, setOb_other hmne, hw1h]; exact hMr.blk, hMr.nd, hMr.bn, hMr.bl, hMr.wf⟩
      have hen := entryB hM2 he hit2
      have hlt : pre.length < E.length := by
        have := CmB.len (w := w2) (m := m) (clock := clock) hC2
        simp at this
        omega
      obtain ⟨⟨k1, k2⟩, ev, eb⟩ := e
      have hJ3 : J pre (w2.alloc (.cells #[.int .i64 k1, .int .i64 k2] 31)) := hJ pre wr _ (some W.heap.size) hJr (grown_trans hg2 (grown_alloc _ _ _)) (fun r q => by cases q; exact ⟨Nat.le_refl _, _, hit, rfl⟩)
      obtain ⟨fn2, tmps2, assign2, body2, hy2, hR2⟩ := hY pre (k1, k2) _ hJ3 hlt
      have HN : Hid (∀ V : World, KeepsWalks (w2.alloc (.cells #[.int .i64 k1, .int .i64 k2] 31)) V → J (pre ++ [(k1, k2)]) V → ∃ (seen : Array Nat) (pre : List (Int × Int)), CmB E seen pre ∧ V.heap[W.heap.size]? = some (.mapIter (some m) clock seen clock) ∧ Mb V m clock E ∧ J pre V ∧ pre.length = seen.size) := fun V hk hj =>
        ⟨_, _, hC2, hk.same _ _ ((Below.heap_alloc _ _ _ (Array.getElem?_eq_some_iff.1 hit2).1).trans hit2) rfl, ⟨hk.same _ _ ((Below.heap_alloc _ _ _ (Array.getElem?_eq_some_iff.1 hM2.blk).1).trans hM2.blk) rfl, hM2.nd, hM2.bn, hM2.bl, hM2.wf⟩, hj, by simp [hlen]⟩
      have HM : Hid (∀ V : World, KeepsWalks (w2.alloc (.cells #[.int .i64 k1, .int .i64 k2] 31)) V → E.length - (match V.heap[W.heap.size]? with | some (.mapIter _ _ seen _) => seen.size | _ => 0) < E.length - (match wr.heap[W.heap.size]? with | some (.mapIter _ _ seen _) => seen.size | _ => 0)) := fun V hk => by
        have e1 := hk.same _ _ ((Below.heap_alloc _ (.cells #[.int .i64 k1, .int .i64 k2] 31) _ (Array.getElem?_eq_some_iff.1 hit2).1).trans hit2) rfl
        rw [e1, hit]
        simp
        omega
      clear hC hit hMr hJr hlen hC2 hitl hw1h hw2 hg2 hit2 hmne hM2 hlt hJ3 heb he hw1 HC
      gi_wp2
      refine hR2.mono ?_
      rintro e W5 (⟨rfl, hJ5, hk5⟩ | ⟨rfl, hJx5⟩)
      · have HJ5 : Hid (J (pre ++ [(k1, k2)]) W5) := hJ5
        have HK5 : Hid (KeepsWalks (w2.alloc (.cells #[.int .i64 k1, .int .i64 k2] 31)) W5) := hk5
        clear hJ5 hk5
        gi_wp2
        go_roundw
        case rel => exact HN.out _ HK5.out HJ5.out
        case measure => exact HM.out _ HK5.out
      · gi_wp2
        refine bodyPost_ret (results_none rfl _ _ _) rfl ?_
        exact ⟨⟨_, rfl⟩, .inr ⟨_, trivial, hJx5⟩⟩

set_option maxRecDepth 100000 in
set_option maxHeartbeats 4000000 in
/-- The iterator over a map's keys. -/
theorem keysB1_in (n : Nat) (hn : 1 ≤ n) (l Bm m clock : Nat) (E : List EnI) (J Jx : List (Int) → World → Prop) (W : World) (hJ : AbidesFrom W.heap.size J)
    (hY : ∀ pre (x : Int) W1, J pre W1 → pre.length < E.length → YieldAt Fence.wide (n - 1) Tryz.prog l #[iA x] W1 fun e W' => (e = .returned (.bool true) ∧ J (pre ++ [x]) W' ∧ KeepsWalks W1 W') ∨ (e = .returned (.bool false) ∧ Jx (pre ++ [x]) W'))
    (hm : W.cell? ⟨Bm, 0, none⟩ = some (.map (some m))) (hM : Mj W m clock E) (h0 : J [] W) :
    CallsIn Fence.wide n Tryz.prog 125 #[.func (.yield l) #[] #[], .pointer (some ⟨Bm, 0, none⟩)] W fun e W' => (∃ v, e = .returned v) ∧ ((∃ ys, ys.Perm (E.map EnI.k) ∧ J ys W') ∨ (∃ pre, True ∧ Jx pre W')) := by
  have hR : (Instr.range 70 (.map (some m))).run Tryz.prog W = .ok (.pointer (some ⟨W.heap.size, 0, none⟩)) (W.alloc (.mapIter (some m) clock #[] clock)) := by
    simp [Instr.range, run_underlying Tryz.underlying70, MapKept.run_getObj_map hM.blk]
  refine callsIn_of_wp Tryz.func125 rfl trivial ?_ rfl
  simp only [Tryz.ntmps125, List.size_toArray, List.length_cons, List.length_nil, Nat.reduceAdd, Nat.reduceSub, Array.replicate_succ, Array.replicate_zero, List.push_toArray, List.append_toArray, List.nil_append, List.cons_append]
  have hml := (Array.getElem?_eq_some_iff.1 hM.blk).1
  have HI : Hid ((W.alloc (.mapIter (some m) clock #[] clock)).heap[W.heap.size]? = some (.mapIter (some m) clock #[] clock)) := heap_alloc_new' W _
  have HM : Hid (Mj (W.alloc (.mapIter (some m) clock #[] clock)) m clock E) := ⟨(Below.heap_alloc _ _ m hml).trans hM.blk, hM.nd, hM.bn, hM.bl, hM.wf⟩
  have HJ0 : Hid (J [] (W.alloc (.mapIter (some m) clock #[] clock))) := hJ [] W _ none h0 (grown_alloc _ _ _) (fun r e => by cases e)
  clear hM h0
  gi_wp2
  gi_loopw [3] (fun _ wr => ∃ (seen : Array Nat) (pre : List (Int)), CmI E seen pre ∧ wr.heap[W.heap.size]? = some (.mapIter (some m) clock seen clock) ∧ Mj wr m clock E ∧ J pre wr ∧ pre.length = seen.size) (fun _ wr => E.length - (match wr.heap[W.heap.size]? with | some (.mapIter _ _ seen _) => seen.size | _ => 0))
  case atStart => exact ⟨#[], [], CmI.start E, HI.out, HM.out, HJ0.out, rfl⟩
  case round =>
    obtain ⟨seen, pre, hC, hit, hMr, hJr, hlen⟩ := hrel
    have HC : Hid (CmI E seen pre ∧ wr.heap[W.heap.size]? = some (.mapIter (some m) clock seen clock) ∧ Mj wr m clock E ∧ J pre wr ∧ pre.length = seen.size) := ⟨hC, hit, hMr, hJr, hlen⟩
    clear HI HM HJ0 hm hR
    rcases nextI hMr hit 0 with ⟨ha, hx⟩ | ⟨e, he, heb, w1, hw1, hx⟩
    · have HP : Hid (pre.Perm (E.map EnI.k)) := hC.perm hMr ha
      clear hC hit hMr hJr hlen ha
      gi_wp2
      go_end0
      exact ⟨⟨_, rfl⟩, .inl ⟨_, HP.out, HC.out.2.2.2.1⟩⟩
    · have hC2 := hC.step hMr he heb
      have hitl : W.heap.size < w1.heap.size := by
        rcases hw1 with rfl | rfl <;> exact (Array.getElem?_eq_some_iff.1 hit).1
      have hw1h : w1.heap = wr.heap := by rcases hw1 with rfl | rfl <;> rfl
      obtain ⟨w2, hw2⟩ : ∃ w2, setOb w1 W.heap.size (.mapIter (some m) clock (seen.push e.b) clock) = w2 := ⟨_, rfl⟩
      rw [hw2] at hx
      have hg2 : wr.grownBy w2 (some W.heap.size) := by
        have := setOb_grown w1 W.heap.size (.mapIter (some m) clock (seen.push e.b) clock)
        rw [hw2] at this
        rcases hw1 with rfl | rfl
        · exact this
        · exact ⟨this.os, this.tape, this.output, this.size, this.block⟩
      have hit2 : w2.heap[W.heap.size]? = some (.mapIter (some m) clock (seen.push e.b) clock) := by rw [← hw2]; exact setOb_same hitl
      have hmne : m ≠ W.heap.size := fun q => by have := hMr.blk; rw [q, hit] at this; cases this
      have hM2 : Mj w2 m clock E := ⟨by rw [← hw2, setOb_other hmne, hw1h]; exact hMr.blk, hMr.nd, hMr.bn, hMr.bl, hMr.wf⟩
      have hen := entryI hM2 he hit2
      have hlt : pre.length < E.length := by
        have := CmI.len (w := w2) (m := m) (clock := clock) hC2
        simp at this
        omega
      obtain ⟨k1, ev, eb⟩ := e
      have hJ3 : J pre w2 := hJ pre wr _ (some W.heap.size) hJr hg2 (fun r q => by cases q; exact ⟨Nat.le_refl _, _, hit, rfl⟩)
      obtain ⟨fn2, tmps2, assign2, body2, hy2, hR2⟩ := hY pre k1 _ hJ3 hlt
      have HN : Hid (∀ V : World, KeepsWalks w2 V → J (pre ++ [k1]) V → ∃ (seen : Array Nat) (pre : List (Int)), CmI E seen pre ∧ V.heap[W.heap.size]? = some (.mapIter (some m) clock seen clock) ∧ Mj V m clock E ∧ J pre V ∧ pre.length = seen.size) := fun V hk hj =>
        ⟨_, _, hC2, hk.same _ _ hit2 rfl, ⟨hk.same _ _ hM2.blk rfl, hM2.nd, hM2.bn, hM2.bl, hM2.wf⟩, hj, by simp [hlen]⟩
      have HM : Hid (∀ V : World, KeepsWalks w2 V → E.length - (match V.heap[W.heap.size]? with | some (.mapIter _ _ seen _) => seen.size | _ => 0) < E.length - (match wr.heap[W.heap.size]? with | some (.mapIter _ _ seen _) => seen.size | _ => 0)) := fun V hk => by
        have e1 := hk.same _ _ hit2 rfl
        rw [e1, hit]
        simp
        omega
      clear hC hit hMr hJr hlen hC2 hitl hw1h hw2 hg2 hit2 hmne hM2 hlt hJ3 heb he hw1 HC
      gi_wp2
      refine hR2.mono ?_
      rintro e W5 (⟨rfl, hJ5, hk5⟩ | ⟨rfl, hJx5⟩)
      · have HJ5 : Hid (J (pre ++ [k1]) W5) := hJ5
        have HK5 : Hid (KeepsWalks w2 W5) := hk5
        clear hJ5 hk5
        gi_wp2
        go_roundw
        case rel => exact HN.out _ HK5.out HJ5.out
        case measure => exact HM.out _ HK5.out
      · gi_wp2
        refine bodyPost_ret (results_none rfl _ _ _) rfl ?_
        exact ⟨⟨_, rfl⟩, .inr ⟨_, trivial, hJx5⟩⟩
end Go.Proofs.YtillgoegiplmkaaGreatDoor.B
