import Derived.Test.YtnclfoljfnfglaiTmKey
import Derived.Laws.OwnMore
import Derived.Maps.AppendAt
import Derived.Deep.QuietTactic
import Derived.BigQuiet
namespace Go.Proofs.Ytnclfoljfnfglai
open Go.RowKit Go.Maps
set_option linter.unusedVariables false

/-! ## What a table's map says: a list of keys, each with its ticks -/
abbrev Tl := List (Kx × Int)
def delT (L : Tl) (k : Kx) : Tl := L.filter fun x => decide (x.1 ≠ k)
def putT (L : Tl) (k : Kx) (n : Int) : Tl := (k, n) :: delT L k
structure TD (D : DataW Unit) (L : Tl) : Prop where
  len : Maps.size D = L.length
  nd : (L.map Prod.fst).Nodup
  wf : ∀ x ∈ L, kW x.1 ∧ 0 ≤ x.2 ∧ x.2 ≤ 1048576
  val : ∀ x ∈ L, ∀ z, D.atKey (kL x.1) z = .lit (.int .i64 x.2)
  inv : ∀ l, Maps.has D l = true → ∃ x ∈ L, l = kL x.1
  mem : ∀ x ∈ L, Maps.has D (kL x.1) = true
theorem TD.empty : TD (.map []) [] := ⟨rfl, by simp, by simp, by simp, by intro l h; simp [Maps.has] at h, by simp⟩
theorem TD.no {D : DataW Unit} {L : Tl} {k : Kx} (h : TD D L) (hk : kW k) (hn : ∀ x ∈ L, x.1 ≠ k) : Maps.has D (kL k) = false := by
  cases e : Maps.has D (kL k)
  · rfl
  · obtain ⟨x, hx, hl⟩ := h.inv _ e
    exact absurd (kL_inj hk (h.wf x hx).1 hl).symm (hn x hx)
theorem mem_delT {L : Tl} {k : Kx} {x : Kx × Int} : x ∈ delT L k ↔ x ∈ L ∧ x.1 ≠ k := by simp [delT]
theorem nd_delT {L : Tl} {k : Kx} (h : (L.map Prod.fst).Nodup) : ((delT L k).map Prod.fst).Nodup := by
  unfold delT
  exact List.Nodup.sublist (List.Sublist.map _ List.filter_sublist) h
theorem len_delT {L : Tl} {k : Kx} (h : (L.map Prod.fst).Nodup) : (delT L k).length + (if k ∈ L.map Prod.fst then 1 else 0) = L.length := by
  induction L with
  | nil => simp [delT]
  | cons x L ih =>
    simp only [List.map_cons, List.nodup_cons] at h
    have := ih h.2
    by_cases e : x.1 = k
    · subst e
      have hn : delT (x :: L) x.1 = delT L x.1 := by simp [delT]
      rw [hn]
      rw [if_neg h.1] at this
      simp only [List.map_cons, List.mem_cons, true_or, if_true, List.length_cons]
      omega
    · have hn : delT (x :: L) k = x :: delT L k := by simp [delT, e]
      rw [hn]
      have e2 : (k ∈ (x :: L).map Prod.fst) ↔ k ∈ L.map Prod.fst := by simp [Ne.symm e]
      simp only [e2, List.length_cons]
      omega
theorem TD.has_eq {D : DataW Unit} {L : Tl} {k : Kx} (h : TD D L) (hk : kW k) : Maps.has D (kL k) = decide (k ∈ L.map Prod.fst) := by
  by_cases e : k ∈ L.map Prod.fst
  · obtain ⟨x, hx, rfl⟩ := List.mem_map.mp e
    rw [h.mem x hx]; exact (decide_eq_true e).symm
  · rw [h.no hk (fun x hx hx2 => e (List.mem_map.mpr ⟨x, hx, hx2⟩))]; exact (decide_eq_false e).symm
theorem TD.del {D : DataW Unit} {L : Tl} {k : Kx} (h : TD D L) (hT : Tidy D) (hk : kW k) : TD (D.del (kL k)) (delT L k) := by
  have hne : ∀ x ∈ delT L k, kL x.1 ≠ kL k := fun x hx e => (mem_delT.mp hx).2 (kL_inj (h.wf x (mem_delT.mp hx).1).1 hk e)
  refine ⟨?_, nd_delT h.nd, fun x hx => h.wf x (mem_delT.mp hx).1, fun x hx z => ?_, fun l hl => ?_, fun x hx => ?_⟩
  · have h1 := size_del (k := kL k) hT
    have h2 := len_delT (k := k) h.nd
    rw [h.has_eq hk, h.len] at h1
    by_cases e : k ∈ L.map Prod.fst <;> simp [e] at h1 h2 <;> omega
  · rw [atKey_del_other (hne x hx)]; exact h.val x (mem_delT.mp hx).1 z
  · by_cases e : l = kL k
    · subst e; rw [has_del_same] at hl; cases hl
    · rw [has_del_other e] at hl
      obtain ⟨x, hx, rfl⟩ := h.inv l hl
      exact ⟨x, mem_delT.mpr ⟨hx, fun e2 => e (by rw [e2])⟩, rfl⟩
  · rw [has_del_other (hne x hx)]; exact h.mem x (mem_delT.mp hx).1
theorem TD.put {D : DataW Unit} {L : Tl} {k : Kx} {n : Int} (h : TD D L) (hT : Tidy D) (hk : kW k) (hn : 0 ≤ n ∧ n ≤ 1048576) : TD (D.put (kL k) (.lit (.int .i64 n))) (putT L k n) := by
  have hne : ∀ x ∈ delT L k, kL x.1 ≠ kL k := fun x hx e => (mem_delT.mp hx).2 (kL_inj (h.wf x (mem_delT.mp hx).1).1 hk e)
  have hkk : WideAt.IsKeyLit (kL k) := keyK.key (key_of hk)
  refine ⟨?_, ?_, fun x hx => ?_, fun x hx z => ?_, fun l hl => ?_, fun x hx => ?_⟩
  · have h1 := size_put (k := kL k) hT (.lit (.int .i64 n))
    have h2 := len_delT (k := k) h.nd
    rw [h.has_eq hk, h.len] at h1
    by_cases e : k ∈ L.map Prod.fst <;> simp [e, putT] at h1 h2 ⊢ <;> omega
  · simp only [putT, List.map_cons, List.nodup_cons]
    exact ⟨fun e => by obtain ⟨x, hx, e2⟩ := List.mem_map.mp e; exact (mem_delT.mp hx).2 e2, nd_delT h.nd⟩
  · rcases List.mem_cons.mp hx with rfl | hx
    · exact ⟨hk, hn⟩
    · exact h.wf x (mem_delT.mp hx).1
  · rcases List.mem_cons.mp hx with rfl | hx
    · exact atKey_put_same hT.isMap hkk _ z
    · rw [atKey_put_other (hne x hx)]; exact h.val x (mem_delT.mp hx).1 z
  · by_cases e : l = kL k
    · exact ⟨(k, n), List.mem_cons_self, e⟩
    · rw [has_put_other e] at hl
      obtain ⟨x, hx, rfl⟩ := h.inv l hl
      exact ⟨x, List.mem_cons_of_mem _ (mem_delT.mpr ⟨hx, fun e2 => e (by rw [e2])⟩), rfl⟩
  · rcases List.mem_cons.mp hx with rfl | hx
    · exact has_put_same hT.isMap hkk _
    · rw [has_put_other (hne x hx)]; exact h.mem x (mem_delT.mp hx).1
theorem TD.perm {D : DataW Unit} {L L' : Tl} (h : TD D L) (hp : L.Perm L') : TD D L' :=
  ⟨h.len.trans hp.length_eq, (hp.map _).nodup_iff.mp h.nd, fun x hx => h.wf x (hp.mem_iff.mpr hx), fun x hx => h.val x (hp.mem_iff.mpr hx),
    fun l hl => let ⟨x, hx, e⟩ := h.inv l hl; ⟨x, hp.mem_iff.mp hx, e⟩, fun x hx => h.mem x (hp.mem_iff.mpr hx)⟩

/-- The peers that are held. -/
structure HD (E : DataW Unit) (Hs : List Int) : Prop where
  len : Maps.size E = Hs.length
  has : ∀ x, kI x = true → Maps.has E (.int .i64 x) = decide (x ∈ Hs)
  nd : Hs.Nodup
theorem HD.empty : HD (.map []) [] := ⟨rfl, fun x _ => by simp [Maps.has], List.nodup_nil⟩

/-! ## A table in memory -/
theorem own_tight {k : TypeId} {R : Value → Option (DataW Unit × List MemPlace)} {w : World} {b n : Nat} {D : DataW Unit} (h : w.ownsMap Try.prog k R b n D) : w.ownsMap Try.prog k R b (Maps.size D) D := by
  obtain ⟨es, clock, hb, F, hs, rfl⟩ := h
  exact ⟨es, clock, hb, F, by simp [Maps.size, length_sorted], rfl⟩
structure Tb (w : World) (p bl bh : Nat) (L : Tl) (Hs : List Int) : Prop where
  box : w.heap[p]? = some (.cells #[.map (some bl), .map (some bh)] 82 (0, 0))
  left : ∃ D, w.ownsMap Try.prog 51 (plainElem Try.prog 3) bl L.length D ∧ TD D L
  held : ∃ E, w.ownsMap Try.prog 3 unitElem bh Hs.length E ∧ HD E Hs
  ne : bl ≠ bh
  pos : ∀ x ∈ L, 1 ≤ x.2

/-- What alone the blocks of S may have changed in. -/
structure Kq (S : Nat → Prop) (w w' : World) : Prop where
  os : w'.os = w.os
  tape : w'.tape = w.tape
  output : w'.output = w.output
  size : w.heap.size ≤ w'.heap.size
  block : ∀ g, g < w.heap.size → ¬ S g → w'.heap[g]? = w.heap[g]?
theorem Kq.refl (S : Nat → Prop) (w : World) : Kq S w w := ⟨rfl, rfl, rfl, Nat.le_refl _, fun _ _ _ => rfl⟩
theorem Kq.trans {S : Nat → Prop} {w w1 w2 : World} (h : Kq S w w1) (h' : Kq S w1 w2) : Kq S w w2 :=
  ⟨h'.os.trans h.os, h'.tape.trans h.tape, h'.output.trans h.output, Nat.le_trans h.size h'.size, fun g hg hS => (h'.block g (Nat.lt_of_lt_of_le hg h.size) hS).trans (h.block g hg hS)⟩
/-- A step that may touch what is new since w, too. -/
theorem Kq.then {S S' : Nat → Prop} {w w1 w2 : World} (h : Kq S w w1) (h' : Kq S' w1 w2) (hs : ∀ g, g < w.heap.size → S' g → S g) : Kq S w w2 :=
  ⟨h'.os.trans h.os, h'.tape.trans h.tape, h'.output.trans h.output, Nat.le_trans h.size h'.size, fun g hg hS => (h'.block g (Nat.lt_of_lt_of_le hg h.size) (fun e => hS (hs g hg e))).trans (h.block g hg hS)⟩
theorem Kq.mono {S S' : Nat → Prop} {w w' : World} (h : Kq S w w') (hs : ∀ g, S g → S' g) : Kq S' w w' := ⟨h.os, h.tape, h.output, h.size, fun g hg hS => h.block g hg (fun e => hS (hs g e))⟩
theorem Kq.grown {S : Nat → Prop} {w0 w w' : World} {row : Option Nat} (h : Kq S w0 w) (hg : w.grownBy w' row) (hr : ∀ k, row = some k → S k ∨ w0.heap.size ≤ k) : Kq S w0 w' :=
  ⟨hg.os.trans h.os, hg.tape.trans h.tape, hg.output.trans h.output, Nat.le_trans h.size hg.size, fun g hgl hS => (hg.block g (Nat.lt_of_lt_of_le hgl h.size) (fun e => by
    rcases hr g e.symm with h1 | h1
    · exact hS h1
    · omega)).trans (h.block g hgl hS)⟩
theorem Kq.alloc {S : Nat → Prop} {w0 w : World} (h : Kq S w0 w) (o : Obj) : Kq S w0 (w.alloc o) := h.grown (World.grownBy_alloc w o none) (fun k hk => by cases hk)
theorem Kq.drew {S : Nat → Prop} {w0 w : World} (h : Kq S w0 w) : Kq S w0 w.drew := ⟨h.os, h.tape, h.output, h.size, h.block⟩
theorem Kq.drewN {S : Nat → Prop} {w0 w : World} (h : Kq S w0 w) (n : Nat) : Kq S w0 (w.drewN n) := ⟨h.os, h.tape, h.output, h.size, h.block⟩
theorem Kq.below {S : Nat → Prop} {w w' : World} {base : Nat} (h : Kq S w w') (hb : base ≤ w.heap.size) (hs : ∀ g, S g → base ≤ g) : Below base w w' :=
  ⟨h.os, h.tape, h.output, h.size, fun k hk => h.block k (by omega) (fun e => by have := hs k e; omega)⟩
theorem Kq.of_below {S : Nat → Prop} {w w' : World} (h : Below w.heap.size w w') : Kq S w w' := ⟨h.os, h.tape, h.output, h.size, fun g hg _ => h.block g hg⟩

theorem own_block {k : TypeId} {R : Value → Option (DataW Unit × List MemPlace)} {w w' : World} {b n : Nat} {D : DataW Unit} (h : w.ownsMap Try.prog k R b n D) (hb : w'.heap[b]? = w.heap[b]?) : w'.ownsMap Try.prog k R b n D := by
  obtain ⟨es, clock, h1, r⟩ := h
  exact ⟨es, clock, hb.trans h1, r⟩
theorem Tb.lts {w : World} {p bl bh : Nat} {L : Tl} {Hs : List Int} (h : Tb w p bl bh L Hs) : p < w.heap.size ∧ bl < w.heap.size ∧ bh < w.heap.size := by
  obtain ⟨D, hD, _⟩ := h.left
  obtain ⟨E, hE, _⟩ := h.held
  exact ⟨(Array.getElem?_eq_some_iff.1 h.box).1, hD.lt, hE.lt⟩
theorem Tb.nes {w : World} {p bl bh : Nat} {L : Tl} {Hs : List Int} (h : Tb w p bl bh L Hs) : p ≠ bl ∧ p ≠ bh := by
  obtain ⟨D, ⟨_, _, hD, _⟩, _⟩ := h.left
  obtain ⟨E, ⟨_, _, hE, _⟩, _⟩ := h.held
  refine ⟨fun e => ?_, fun e => ?_⟩
  · have := h.box; rw [e, hD] at this; cases this
  · have := h.box; rw [e, hE] at this; cases this
theorem Tb.keep {S : Nat → Prop} {w w' : World} {p bl bh : Nat} {L : Tl} {Hs : List Int} (h : Tb w p bl bh L Hs) (hk : Kq S w w') (h1 : ¬ S p) (h2 : ¬ S bl) (h3 : ¬ S bh) : Tb w' p bl bh L Hs := by
  obtain ⟨l1, l2, l3⟩ := h.lts
  obtain ⟨D, hD, tD⟩ := h.left
  obtain ⟨E, hE, tE⟩ := h.held
  exact ⟨(hk.block p l1 h1).trans h.box, ⟨D, own_block hD (hk.block _ l2 h2), tD⟩, ⟨E, own_block hE (hk.block _ l3 h3), tE⟩, h.ne, h.pos⟩
/-- Its map of timers was written. -/
theorem Tb.turn {w w' : World} {p bl bh : Nat} {L L' : Tl} {Hs : List Int} (h : Tb w p bl bh L Hs) {D' : DataW Unit} {n' : Nat} (ho : w'.ownsMap Try.prog 51 (plainElem Try.prog 3) bl n' D') (hT : TD D' L') (hk : Kq (· = bl) w w') (hp : ∀ x ∈ L', 1 ≤ x.2) : Tb w' p bl bh L' Hs := by
  obtain ⟨l1, l2, l3⟩ := h.lts
  obtain ⟨n1, n2⟩ := h.nes
  obtain ⟨E, hE, tE⟩ := h.held
  exact ⟨(hk.block p l1 n1).trans h.box, ⟨D', by rw [← hT.len]; exact own_tight ho, hT⟩, ⟨E, own_block hE (hk.block _ l3 h.ne.symm), tE⟩, h.ne, hp⟩
theorem Tb.cell0 {w : World} {p bl bh : Nat} {L : Tl} {Hs : List Int} (h : Tb w p bl bh L Hs) : w.cell? ⟨p, 0, none⟩ = some (.map (some bl)) := by simp [World.cell?, h.box]
theorem Tb.cell1 {w : World} {p bl bh : Nat} {L : Tl} {Hs : List Int} (h : Tb w p bl bh L Hs) : w.cell? ⟨p, 1, none⟩ = some (.map (some bh)) := by simp [World.cell?, h.box]
theorem Tb.nd {w : World} {p bl bh : Nat} {L : Tl} {Hs : List Int} (h : Tb w p bl bh L Hs) : (L.map Prod.fst).Nodup := by obtain ⟨D, _, hD⟩ := h.left; exact hD.nd
theorem Tb.wf {w : World} {p bl bh : Nat} {L : Tl} {Hs : List Int} (h : Tb w p bl bh L Hs) : ∀ x ∈ L, kW x.1 ∧ 0 ≤ x.2 ∧ x.2 ≤ 1048576 := by obtain ⟨D, _, hD⟩ := h.left; exact hD.wf
theorem Tb.perm {w : World} {p bl bh : Nat} {L L' : Tl} {Hs : List Int} (h : Tb w p bl bh L Hs) (hp : L.Perm L') : Tb w p bl bh L' Hs := by
  obtain ⟨D, hD, tD⟩ := h.left
  exact ⟨h.box, ⟨D, hp.length_eq ▸ hD, tD.perm hp⟩, h.held, h.ne, fun x hx => h.pos x (hp.mem_iff.mpr hx)⟩
theorem Tb.drew {w : World} {p bl bh : Nat} {L : Tl} {Hs : List Int} (h : Tb w p bl bh L Hs) : Tb w.drew p bl bh L Hs := h.keep (S := fun _ => False) (Kq.refl _ _).drew (fun h => h) (fun h => h) (fun h => h)
theorem Tb.alloc {w : World} {p bl bh : Nat} {L : Tl} {Hs : List Int} (h : Tb w p bl bh L Hs) (o : Obj) : Tb (w.alloc o) p bl bh L Hs := h.keep (S := fun _ => False) ((Kq.refl _ _).alloc o) (fun h => h) (fun h => h) (fun h => h)

/-! ## Rows of keys -/
def KR (w : World) (base : Nat) (v : Value) (l : List Kx) : Prop := w.ownsRow base 51 5 v l.length (l.flatMap kV)
theorem kv_len (l : List Kx) : (l.flatMap kV).length = l.length * 5 := by
  induction l with
  | nil => rfl
  | cons s r ih => simp [kV, ih]; omega
theorem kv_one (l : List Kx) : ∀ u ∈ l.flatMap kV, u.oneCell' = true := by
  intro u hu
  obtain ⟨c, _, hc⟩ := List.mem_flatMap.mp hu
  simp [kV] at hc
  rcases hc with rfl | rfl | rfl | rfl | rfl <;> rfl
theorem kv_get (l : List Kx) (i : Nat) (c : Kx) (h : l[i]? = some c) : (l.flatMap kV)[i * 5]? = some (.int .i64 c.1) ∧ (l.flatMap kV)[i * 5 + 1]? = some (.int .i64 c.2.1) ∧ (l.flatMap kV)[i * 5 + 2]? = some (.int .i64 c.2.2.1) ∧ (l.flatMap kV)[i * 5 + 3]? = some (.int .i64 c.2.2.2.1) ∧ (l.flatMap kV)[i * 5 + 4]? = some (.int .i64 c.2.2.2.2) := by
  induction l generalizing i with
  | nil => simp at h
  | cons s r ih =>
    cases i with
    | zero => simp at h; subst h; simp [kV]
    | succ i =>
      simp at h
      have := ih i h
      have e : ∀ j, ((s :: r).flatMap kV)[(i + 1) * 5 + j]? = (r.flatMap kV)[i * 5 + j]? := fun j => by
        rw [List.flatMap_cons, List.getElem?_append_right (by simp [kV]; omega)]
        congr 1
        simp [kV]; omega
      exact ⟨(e 0).trans this.1, (e 1).trans this.2.1, (e 2).trans this.2.2.1, (e 3).trans this.2.2.2.1, (e 4).trans this.2.2.2.2⟩
theorem KR.some {w : World} {base : Nat} {v : Value} {l : List Kx} (h : KR w base v l) (hn : 0 < l.length) : ∃ g cap, v = .slice (some ⟨g, 0, none⟩) l.length cap ∧ base ≤ g ∧ g < w.heap.size ∧ l.length ≤ cap := by
  obtain ⟨_, ⟨rfl, h0⟩ | ⟨g, cap, cur, rfl, hb, hg, hc, _⟩⟩ := h
  · omega
  · exact ⟨g, cap, rfl, hb, (Array.getElem?_eq_some_iff.mp hg).1, hc⟩
theorem KR.shape {w : World} {base : Nat} {v : Value} {l : List Kx} (h : KR w base v l) : ∃ a cap, v = .slice a l.length cap := by
  obtain ⟨_, ⟨rfl, h0⟩ | ⟨g, cap, cur, rfl, _⟩⟩ := h
  · exact ⟨none, 0, by rw [h0]⟩
  · exact ⟨_, cap, rfl⟩
theorem KR.cells {w : World} {base g n cap : Nat} {l : List Kx} (h : KR w base (.slice (Option.some ⟨g, 0, none⟩) n cap) l) {i : Nat} {c : Kx} (hc : l[i]? = Option.some c) :
    w.cell? ⟨g, i * 5, none⟩ = Option.some (.int .i64 c.1) ∧ w.cell? ⟨g, i * 5 + 1, none⟩ = Option.some (.int .i64 c.2.1) ∧ w.cell? ⟨g, i * 5 + 2, none⟩ = Option.some (.int .i64 c.2.2.1) ∧ w.cell? ⟨g, i * 5 + 3, none⟩ = Option.some (.int .i64 c.2.2.2.1) ∧ w.cell? ⟨g, i * 5 + 4, none⟩ = Option.some (.int .i64 c.2.2.2.2) := by
  have hi : i < l.length := (List.getElem?_eq_some_iff.mp hc).1
  have hn : n = l.length := by
    obtain ⟨_, ⟨e, _⟩ | ⟨g', cap', cur, e, _⟩⟩ := h
    · cases e
    · cases e; rfl
  subst hn
  have q := kv_get l i c hc
  exact ⟨(World.ownsRow.cellAt h _ (by omega)).trans q.1, (World.ownsRow.cellAt h _ (by omega)).trans q.2.1, (World.ownsRow.cellAt h _ (by omega)).trans q.2.2.1, (World.ownsRow.cellAt h _ (by omega)).trans q.2.2.2.1, (World.ownsRow.cellAt h _ (by omega)).trans q.2.2.2.2⟩
theorem KR.keep {S : Nat → Prop} {w w' : World} {base : Nat} {v : Value} {l : List Kx} (h : KR w base v l) (hk : Kq S w w') (hs : ∀ g, v.ownBlock = Option.some g → ¬ S g) : KR w' base v l := by
  have hlt := World.ownsRow.lt h
  obtain ⟨h1, h2⟩ := h
  refine ⟨h1, ?_⟩
  rcases h2 with h2 | ⟨g, cap, cur, rfl, hg, hh, r⟩
  · exact .inl h2
  · exact .inr ⟨g, cap, cur, rfl, hg, (hk.block g (hlt g rfl).2 (hs g rfl)).trans hh, r⟩
theorem five_new (w : World) (a b c d e : Value) (t : TypeId) : ∀ j u, [a, b, c, d, e][j]? = some u → (w.alloc (.cells #[a, b, c, d, e] t)).cell? ((⟨w.heap.size, 0, none⟩ : Addr).add j) = some u := by
  intro j u hj
  match j, hj with
  | 0, hj => simp at hj; subst hj; simp [Addr.add]
  | 1, hj => simp at hj; subst hj; simp [Addr.add]
  | 2, hj => simp at hj; subst hj; simp [Addr.add]
  | 3, hj => simp at hj; subst hj; simp [Addr.add]
  | 4, hj => simp at hj; subst hj; simp [Addr.add]
theorem Try.pinfo_key : (Try.prog.info? 51).map (fun i => (i.zero, i.size, i.bytes)) = some (some (.agg #[.int .i64 0, .int .i64 0, .int .i64 0, .int .i64 0, .int .i64 0]), 5, 40) := by kernel_rfl

end Go.Proofs.Ytnclfoljfnfglai
