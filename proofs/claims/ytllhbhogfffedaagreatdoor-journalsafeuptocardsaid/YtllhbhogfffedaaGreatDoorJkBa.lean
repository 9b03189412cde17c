import Derived.Test.YtllhbhogfffedaaGreatDoorJkKn
import Derived.Test.YtllhbhogfffedaaGreatDoorRcPrf
namespace Go.Proofs.YtllhbhogfffedaaGreatDoor.K
open Go.RowKit
set_option linter.unusedVariables false
set_option linter.unusedSimpArgs false

/-- Known, in memory: what is sure, what was written since, what was to be written anew. -/
structure Kn (W V : World) (X : Nat → Prop) (kb : Nat) (S M : List Ro) (A : List Rc) (dead anewed : Bool) : Prop where
  kx : X kb
  mem : ∃ sv mv a n c, V.heap[kb]? = some (.cells #[sv, mv, .slice a n c, .bool dead, .bool anewed] 51 (0, 0)) ∧ Rr W.heap.size V sv S ∧ Rr W.heap.size V mv M ∧ (∀ g, sv.ownBlock = some g → X g ∧ g ≠ kb) ∧ (∀ g, mv.ownBlock = some g → X g ∧ g ≠ kb) ∧ (∀ g, sv.ownBlock = some g → mv.ownBlock ≠ some g) ∧ A.length = n ∧ RLin W a A
  ins : ∀ o ∈ S ++ M, RIo W o
theorem Kn.keep {W V U : World} {X : Nat → Prop} {kb : Nat} {S M : List Ro} {A : List Rc} {dead anewed : Bool} (h : Kn W V X kb S M A dead anewed) (hx : ∀ k, X k → U.heap[k]? = V.heap[k]?) : Kn W U X kb S M A dead anewed := by
  obtain ⟨sv, mv, a, n, c, h1, h2, h3, h4, h5, h6, h7⟩ := h.mem
  exact ⟨h.kx, ⟨sv, mv, a, n, c, (hx kb h.kx).trans h1, h2.blk (fun g hg => hx g (h4 g hg).1), h3.blk (fun g hg => hx g (h5 g hg).1), h4, h5, h6, h7⟩, h.ins⟩
theorem Kn.more {W V : World} {X Y : Nat → Prop} {kb : Nat} {S M : List Ro} {A : List Rc} {dead anewed : Bool} (h : Kn W V X kb S M A dead anewed) (hx : ∀ k, X k → Y k) : Kn W V Y kb S M A dead anewed := by
  obtain ⟨sv, mv, a, n, c, h1, h2, h3, h4, h5, h6, h7⟩ := h.mem
  exact ⟨hx _ h.kx, ⟨sv, mv, a, n, c, h1, h2, h3, fun g hg => ⟨hx g (h4 g hg).1, (h4 g hg).2⟩, fun g hg => ⟨hx g (h5 g hg).1, (h5 g hg).2⟩, h6, h7⟩, h.ins⟩
section
variable {W w U : World} {X : Nat → Prop} {kb : Nat} {S M : List Ro} {A : List Rc} {dead an : Bool}
theorem Kn.lt (h : Kn W w X kb S M A dead an) : kb < w.heap.size := by
  obtain ⟨_, _, _, _, _, h1, _⟩ := h.mem
  exact (Array.getElem?_eq_some_iff.1 h1).1
theorem kd_to {a b : World} (h : Kd X a b) {k i : Nat} {v : Value} (hk : X k) : Kd X a (b.setCell ⟨k, i, none⟩ v) := h.trans (Kd.set hk)
theorem kd_grow {a b c : World} {row : Option Nat} (h : Kd X a b) (hg : b.grownBy c row) (hr : ∀ g, row = some g → X g ∨ a.heap.size ≤ g) : Kd X a c :=
  ⟨hg.os.trans h.os, hg.tape.trans h.tape, hg.output.trans h.output, Nat.le_trans h.size hg.size, fun k hk hn => (hg.block k (Nat.lt_of_lt_of_le hk h.size) (fun e => (hr k e.symm).elim hn (fun q => by omega))).trans (h.same k hk hn)⟩
/-- More was written: the list grows. -/
theorem kn_more (h : Kn W w X kb S M A dead an) (hx : ∀ k, X k → k < w.heap.size) {sv mv : Value} {a : Option Addr} {n c : Nat} (h1 : w.heap[kb]? = some (.cells #[sv, mv, .slice a n c, .bool dead, .bool an] 51 (0, 0))) (h2 : Rr W.heap.size w sv S) (h4 : ∀ g, sv.ownBlock = some g → X g ∧ g ≠ kb) (h5 : ∀ g, mv.ownBlock = some g → X g ∧ g ≠ kb) (h6 : ∀ g, sv.ownBlock = some g → mv.ownBlock ≠ some g) (h7 : A.length = n ∧ RLin W a A)
    {v' : Value} {os : List Ro} (ho : ∀ o ∈ os, RIo W o) (hr : U.ownsRow W.heap.size 81 11 v' (M.length + os.length) (rlC M ++ rlC os)) (hg : w.grownBy U mv.ownBlock) (hv : v'.ownBlock = mv.ownBlock ∨ ∃ g, v'.ownBlock = some g ∧ w.heap.size ≤ g) :
    Kn W (U.setCell ⟨kb, 1, none⟩ v') (fun k => X k ∨ (w.heap.size ≤ k ∧ k < U.heap.size)) kb S (M ++ os) A dead an ∧ Kd X w (U.setCell ⟨kb, 1, none⟩ v') := by
  have hkl := hx kb h.kx
  have nk : mv.ownBlock ≠ some kb := fun e => (h5 kb e).2 rfl
  have hU : U.heap[kb]? = some (.cells #[sv, mv, .slice a n c, .bool dead, .bool an] 51 (0, 0)) := (hg.block kb hkl (fun e => nk e.symm)).trans h1
  have hv' : ∀ g, v'.ownBlock = some g → (X g ∨ w.heap.size ≤ g) ∧ g ≠ kb ∧ g < U.heap.size := fun g e => by
    have hlt := (World.ownsRow.lt hr g e).2
    rcases hv with q | ⟨g', q, q2⟩
    · have := h5 g (q.symm.trans e); exact ⟨.inl this.1, this.2, hlt⟩
    · rw [e] at q; cases q; exact ⟨.inr q2, by omega, hlt⟩
  refine ⟨⟨.inl h.kx, ⟨sv, v', a, n, c, heap_setCell_same U kb 1 _ _ _ hU, ?_, ?_, fun g e => ⟨.inl (h4 g e).1, (h4 g e).2⟩, fun g e => ⟨(hv' g e).1.imp id (fun q => ⟨q, (hv' g e).2.2⟩), (hv' g e).2.1⟩, fun g e e2 => ?_, h7⟩, fun o hq => ?_⟩, kd_to (kd_grow (Kd.refl _ _) hg (fun g e => .inl (h5 g e).1)) h.kx⟩
  · exact h2.blk (fun g e => (heap_setCell_other _ _ _ _ (h4 g e).2).trans (hg.block g (hx g (h4 g e).1) (fun q => h6 g e q.symm)))
  · show World.ownsRow _ _ _ _ _ _ _
    rw [List.length_append, rlC_app]
    exact d_blk hr (fun g e => heap_setCell_other _ _ _ _ (hv' g e).2.1)
  · rcases hv with q | ⟨g', q, q2⟩
    · exact h6 g e (q.symm.trans e2)
    · rw [q] at e2; cases e2; have := hx g (h4 g e).1; omega
  · rw [← List.append_assoc, List.mem_append] at hq
    exact hq.elim (h.ins o) (ho o)
/-- What was written is sure: the other list grows. -/
theorem kn_sure (h : Kn W w X kb S M A dead an) (hx : ∀ k, X k → k < w.heap.size) {sv mv : Value} {a : Option Addr} {n c : Nat} (h1 : w.heap[kb]? = some (.cells #[sv, mv, .slice a n c, .bool dead, .bool an] 51 (0, 0))) (h3 : Rr W.heap.size w mv M) (h4 : ∀ g, sv.ownBlock = some g → X g ∧ g ≠ kb) (h5 : ∀ g, mv.ownBlock = some g → X g ∧ g ≠ kb) (h6 : ∀ g, sv.ownBlock = some g → mv.ownBlock ≠ some g) (h7 : A.length = n ∧ RLin W a A)
    {v' : Value} (hr : U.ownsRow W.heap.size 81 11 v' (S.length + M.length) (rlC S ++ rlC M)) (hg : w.grownBy U sv.ownBlock) (hv : v'.ownBlock = sv.ownBlock ∨ ∃ g, v'.ownBlock = some g ∧ w.heap.size ≤ g) :
    Kn W (U.setCell ⟨kb, 0, none⟩ v') (fun k => X k ∨ (w.heap.size ≤ k ∧ k < U.heap.size)) kb (S ++ M) M A dead an ∧ Kd X w (U.setCell ⟨kb, 0, none⟩ v') := by
  have hkl := hx kb h.kx
  have nk : sv.ownBlock ≠ some kb := fun e => (h4 kb e).2 rfl
  have hU : U.heap[kb]? = some (.cells #[sv, mv, .slice a n c, .bool dead, .bool an] 51 (0, 0)) := (hg.block kb hkl (fun e => nk e.symm)).trans h1
  have hv' : ∀ g, v'.ownBlock = some g → (X g ∨ w.heap.size ≤ g) ∧ g ≠ kb ∧ g < U.heap.size := fun g e => by
    have hlt := (World.ownsRow.lt hr g e).2
    rcases hv with q | ⟨g', q, q2⟩
    · have := h4 g (q.symm.trans e); exact ⟨.inl this.1, this.2, hlt⟩
    · rw [e] at q; cases q; exact ⟨.inr q2, by omega, hlt⟩
  refine ⟨⟨.inl h.kx, ⟨v', mv, a, n, c, heap_setCell_same U kb 0 _ _ _ hU, ?_, ?_, fun g e => ⟨(hv' g e).1.imp id (fun q => ⟨q, (hv' g e).2.2⟩), (hv' g e).2.1⟩, fun g e => ⟨.inl (h5 g e).1, (h5 g e).2⟩, fun g e e2 => ?_, h7⟩, fun o hq => ?_⟩, kd_to (kd_grow (Kd.refl _ _) hg (fun g e => .inl (h4 g e).1)) h.kx⟩
  · show World.ownsRow _ _ _ _ _ _ _
    rw [List.length_append, rlC_app]
    exact d_blk hr (fun g e => heap_setCell_other _ _ _ _ (hv' g e).2.1)
  · exact h3.blk (fun g e => (heap_setCell_other _ _ _ _ (h5 g e).2).trans (hg.block g (hx g (h5 g e).1) (fun q => h6 g q.symm e)))
  · rcases hv with q | ⟨g', q, q2⟩
    · exact h6 g (q.symm.trans e) e2
    · rw [e] at q; cases q; have := hx g (h5 g e2).1; omega
  · rw [List.append_assoc, List.mem_append] at hq
    rcases hq with hq | hq
    · exact h.ins o (List.mem_append.mpr (.inl hq))
    · exact h.ins o (List.mem_append.mpr (.inr ((List.mem_append.mp hq).elim id id)))
theorem kn_nil (h : Kn W w X kb S M A dead an) : Kn W (w.setCell ⟨kb, 1, none⟩ (.slice none 0 0)) X kb S [] A dead an := by
  obtain ⟨sv, mv, a, n, c, h1, h2, h3, h4, h5, h6, h7⟩ := h.mem
  exact ⟨h.kx, ⟨sv, .slice none 0 0, a, n, c, heap_setCell_same w kb 1 _ _ _ h1, h2.blk (fun g e => heap_setCell_other _ _ _ _ (h4 g e).2), Rr.nil _ _, h4, (fun g e => (by cases e)), (fun g e => (by simp [Value.ownBlock])), h7⟩, fun o q => h.ins o (List.mem_append.mpr (.inl (by simpa using q)))⟩
theorem kn_dead (h : Kn W w X kb S M A dead an) : Kn W (w.setCell ⟨kb, 3, none⟩ (.bool true)) X kb S M A true an := by
  obtain ⟨sv, mv, a, n, c, h1, h2, h3, h4, h5, h6, h7⟩ := h.mem
  exact ⟨h.kx, ⟨sv, mv, a, n, c, heap_setCell_same w kb 3 _ _ _ h1, h2.blk (fun g e => heap_setCell_other _ _ _ _ (h4 g e).2), h3.blk (fun g e => heap_setCell_other _ _ _ _ (h5 g e).2), h4, h5, h6, h7⟩, h.ins⟩
theorem kn_anewed (h : Kn W w X kb S M A dead an) (b : Bool) : Kn W (w.setCell ⟨kb, 4, none⟩ (.bool b)) X kb S M A dead b := by
  obtain ⟨sv, mv, a, n, c, h1, h2, h3, h4, h5, h6, h7⟩ := h.mem
  exact ⟨h.kx, ⟨sv, mv, a, n, c, heap_setCell_same w kb 4 _ _ _ h1, h2.blk (fun g e => heap_setCell_other _ _ _ _ (h4 g e).2), h3.blk (fun g e => heap_setCell_other _ _ _ _ (h5 g e).2), h4, h5, h6, h7⟩, h.ins⟩
theorem kn_anew (h : Kn W w X kb S M A dead an) {l : List Rc} {a : Option Addr} {n c : Nat} (hl : l.length = n) (ha : RLin W a l) : Kn W (w.setCell ⟨kb, 2, none⟩ (.slice a n c)) X kb S M l dead an := by
  obtain ⟨sv, mv, a', n', c', h1, h2, h3, h4, h5, h6, h7⟩ := h.mem
  exact ⟨h.kx, ⟨sv, mv, a, n, c, heap_setCell_same w kb 2 _ _ _ h1, h2.blk (fun g e => heap_setCell_other _ _ _ _ (h4 g e).2), h3.blk (fun g e => heap_setCell_other _ _ _ _ (h5 g e).2), h4, h5, h6, hl, ha⟩, h.ins⟩
/-- What is sure is these alone: a list that is new. -/
theorem kn_anew0 (h : Kn W w X kb S M A dead an) (hx : ∀ k, X k → k < w.heap.size) {v' : Value} {os : List Ro} (ho : ∀ o ∈ os, RIo W o) (hK : Kd X w U) (hkb : U.heap[kb]? = w.heap[kb]?) (hr : Rr W.heap.size U v' os) (hv : ∀ g, v'.ownBlock = some g → w.heap.size ≤ g) :
    Kn W ((U.setCell ⟨kb, 0, none⟩ v').setCell ⟨kb, 1, none⟩ (.slice none 0 0)) (fun k => X k ∨ (w.heap.size ≤ k ∧ k < U.heap.size)) kb os [] A dead an ∧ Kd X w ((U.setCell ⟨kb, 0, none⟩ v').setCell ⟨kb, 1, none⟩ (.slice none 0 0)) := by
  obtain ⟨sv, mv, a, n, c, h1, h2, h3, h4, h5, h6, h7⟩ := h.mem
  have hkl := hx kb h.kx
  have hs : (U.setCell ⟨kb, 0, none⟩ v').heap[kb]? = _ := heap_setCell_same U kb 0 _ _ _ (hkb.trans h1)
  refine ⟨⟨.inl h.kx, ⟨v', .slice none 0 0, a, n, c, heap_setCell_same (U.setCell ⟨kb, 0, none⟩ v') kb 1 _ _ _ hs, ?_, Rr.nil _ _, fun g e => ⟨.inr ⟨hv g e, (World.ownsRow.lt hr g e).2⟩, by have := hv g e; omega⟩, (fun g e => (by cases e)), (fun g e => (by simp [Value.ownBlock])), h7⟩, fun o q => ho o (by simpa using q)⟩, kd_to (kd_to hK h.kx) h.kx⟩
  have ne : ∀ g, v'.ownBlock = some g → g ≠ kb := fun g e => by have := hv g e; omega
  exact hr.blk (fun g e => (heap_setCell_other _ _ _ _ (ne g e)).trans (heap_setCell_other _ _ _ _ (ne g e)))
end
theorem own_empty (w : World) {base : Nat} (hb : base ≤ w.heap.size) : (w.alloc (.cells #[] 81)).ownsRow base 81 11 (.slice (some ⟨w.heap.size, 0, none⟩) 0 0) 0 [] := ⟨rfl, .inr ⟨w.heap.size, 0, #[], rfl, hb, heap_new6 w _, Nat.le_refl _, by unfold maxLen; omega, rfl, rfl⟩⟩
/-- An append of records that lie anywhere, in a walk. -/
theorem appR_wl {ops : Array Oper} {rest : List Oper} {o : Oper} {a : Act} {Q : Exit → Act → World → Prop} {w : World} (hgd : o.guard = none) (s x : Operand)
    (ho : o.op = .call { callee := .builtin .append, args := #[s, x], argTypes := #[34, 34] }) (base : Nat)
    (v : Value) (n : Nat) (xs : List Value) (hs : a.eval s = v) (hown : w.ownsRow base 81 11 v n xs)
    (ab : Option Addr) (nb cb : Nat) (news : List Value) (hx : a.eval x = .slice ab nb cb) (hl : news.length = nb * 11) (hz : ∀ ad, ab = some ad → ∀ j u, news[j]? = some u → w.cell? (ad.add j) = some u) (h1 : ∀ u ∈ news, u.oneCell' = true) (hnn : ab = none → nb = 0 ∧ cb = 0) (hb : n + nb ≤ 1099511627776) (hbase : base ≤ w.heap.size)
    (h : ∀ v' w', w'.ownsRow base 81 11 v' (n + nb) (xs ++ news) → w.grownBy w' v.ownBlock → (v'.ownBlock = v.ownBlock ∨ v'.ownBlock = some w.heap.size) → wpList Tryz.prog ops Q rest (a.put o.dst v') w') : wpList Tryz.prog ops Q (o :: rest) a w := by
  obtain ⟨i0, hi, hz0, hz1, hz2⟩ := info_parts Tryz.info_rec
  cases ab with
  | none =>
    obtain ⟨rfl, rfl⟩ := hnn rfl
    have hn' : news = [] := List.eq_nil_of_length_eq_zero (by simpa using hl)
    subst hn'
    exact wpList_append_own_none hgd s x 34 ho base 81 i0 11 Tryz.underlying34 hi v n xs hs hown hx (h v w (by simpa using hown) ⟨rfl, rfl, rfl, Nat.le_refl _, fun _ _ _ => rfl⟩ (.inl rfl))
  | some ad =>
    exact wpList_append_own_at w hgd s x 34 ho base 81 i0 _ 11 120 Tryz.underlying34 hi hz0 hz1 hz2 rfl (by decide) v n xs hs hown ad nb cb news hx hl (hz ad rfl) h1 (by unfold maxLen; omega) (by omega) hbase (fun v' w' r1 r2 _ r3 => h v' w' r1 r2 r3)
abbrev rcs (S : List Ro) : List Rc := S.map Ro.r
/-- How things stand behind some batches. -/
structure Bst (W : World) (d j kb c : Nat) (w : World) (S M : List Ro) (dead : Bool) : Prop where
  ex : ∃ (X : Nat → Prop) (D : Dk) (J : Jl) (A : List Rc) (anewed : Bool), Sk W d j X w D J ∧ Kn W w X kb S M A dead anewed ∧ D.room = 4611686018427387904 ∧ D.Ok 274877906944 ∧ Vd (rcs S ++ rcs M) ∧ (dead = false ∧ Lv (rcs S) (rcs M) D J ∨ dead = true ∧ J = ⟨0, 0, true⟩ ∧ (Dd (rcs S) (rcs M) D.fs ∨ anewed = true ∧ Vd A ∧ A.length ≤ 1048576 ∧ Dd A [] D.fs))
  cnt : S.length + M.length ≤ c
def BaP (W : World) (d j kb c : Nat) (e : Ending) (w' : World) : Prop := e = .returned (.bool true) ∧ ∃ S M dead, Bst W d j kb c w' S M dead
theorem fr_bound {l : List Rc} (h : Vd l) (hl : l.length ≤ 1048576) : (fr l).length ≤ 83894468608 := by
  have := fr_len (l := l) (fun r hr => (h r hr).1)
  have h2 : 80008 * l.length ≤ 80008 * 1048576 := Nat.mul_le_mul_left _ hl
  show (l.flatMap frB).length ≤ _
  omega
theorem wr_nil {D : Dk} {J : Jl} (h : J.dead = false) : wrX D J [] false = (D, J, 0) := by
  unfold wrX
  rw [if_pos (frE_ok h (fun r hr => by cases hr))]
  unfold wrA wrS
  simp
theorem fmR_cases (l : List Rc) (hd : ∀ r ∈ l, Bytey r.data) : (Vd l ∧ (fmR l).2 = 0) ∨ (l.all mayB6 ≠ true ∧ (fmR l).2 = 60) := by
  by_cases h : l.all mayB6 = true
  · exact .inl ⟨fun r hr => ⟨List.all_eq_true.mp h r hr, hd r hr⟩, by unfold fmR; rw [if_pos h]⟩
  · exact .inr ⟨h, by unfold fmR; rw [if_neg h]⟩
theorem frE_bad {J : Jl} {l : List Rc} (h : J.dead = false) (hl : l.all mayB6 ≠ true) : frE J l = 60 := by
  unfold frE
  rw [if_neg (by simp [h]), if_neg hl]

set_option maxHeartbeats 16000000 in
set_option maxRecDepth 100000 in
/-- KNOWN'S BATCH. -/
theorem batch_any (W w : World) (d j kb cnt : Nat) (S M : List Ro) (aD aF aN : Addr) (hS : S0 W aD aF aN) (hE : Et W) (a : Option Addr) (n c : Nat) (sync anew : Bool) (l : List Rc) (h : Bst W d j kb cnt w S M false) (hl : l.length = n) (ha : RLin W a l) (hnn : a = none → n = 0 ∧ c = 0) (hd : ∀ r ∈ l, Bytey r.data) (hc : cnt + n ≤ 1048576) :
    Calls Tryz.prog 15 #[.pointer (some ⟨kb, 0, none⟩), .pointer (some ⟨j, 0, none⟩), .agg #[.slice a n c, .bool sync, .bool anew]] w fun e w' => BaP W d j kb (cnt + n) e w' := by
  obtain ⟨⟨X, D, J, A, anewed, hsk, hkn, hroom, hok, hvd, hst⟩, hcnt⟩ := h
  have hlv : Lv (rcs S) (rcs M) D J := by rcases hst with ⟨_, q⟩ | ⟨q, _⟩; exact q; cases q
  obtain ⟨w1, hw1⟩ : ∃ V, w.alloc (.cells #[.slice a n c, .bool sync, .bool anew] 54) = V := ⟨_, rfl⟩
  have hb1 : Below w.heap.size w w1 := by rw [← hw1]; exact (Below.refl _ _).alloc (Nat.le_refl _) _
  have hs1 : w1.heap.size = w.heap.size + 1 := by rw [← hw1]; simp
  have hg1 := heap_new6 w (.cells #[.slice a n c, .bool sync, .bool anew] 54)
  rw [hw1] at hg1
  have hsk1 := hsk.law (Kd.below (F := X) hb1)
  have hkn1 := hkn.keep (fun k hk => hb1.block k (hsk.xs k hk).2.1)
  obtain ⟨Y, hY⟩ : ∃ Y : Nat → Prop, (fun k => X k ∨ (w.heap.size ≤ k ∧ k < w1.heap.size)) = Y := ⟨_, rfl⟩
  have hYb : Y w.heap.size := by rw [← hY]; exact .inr ⟨Nat.le_refl _, by omega⟩
  have HXY : Hid (∀ k, X k → Y k ∧ k < w.heap.size) := fun k q => ⟨by rw [← hY]; exact .inl q, (hsk.xs k q).2.1⟩
  rw [hY] at hsk1
  have hcl : (rcs S ++ rcs M).length ≤ cnt := by simp; exact hcnt
  have hfb : (fr (rcs S ++ rcs M)).length ≤ 83894468608 := fr_bound hvd (by omega)
  have hokc : D.Ok 137438953472 := hlv.ok hok (by omega)
  have hJn : J.n ≤ 549755813888 := by rw [hlv.n]; omega
  have hJk : J.k ≤ 549755813888 := by rw [hlv.k]; have := fr_alen (rcs S) (rcs M); omega
  have hal := hsk.bel
  have hFR := frame2_any l a n c w1 hl (by omega) (ha.below (hal.trans (hb1.mono hal.size))) hd
  have HG : Hid (S0 W aD aF aN ∧ Et W ∧ RLin W a l ∧ (∀ r ∈ l, Bytey r.data) ∧ l.length = n ∧ (a = none → n = 0 ∧ c = 0)) := ⟨hS, hE, ha, hd, hl, hnn⟩
  have H1 : Hid (Sk W d j Y w1 D J ∧ Kn W w1 X kb S M A false anewed ∧ D.room = 4611686018427387904 ∧ D.Ok 274877906944 ∧ Vd (rcs S ++ rcs M) ∧ Lv (rcs S) (rcs M) D J ∧ D.Ok 137438953472 ∧ Y w.heap.size ∧ S.length + M.length ≤ cnt) := ⟨hsk1, hkn1, hroom, hok, hvd, hlv, hokc, hYb, hcnt⟩
  have HB1 : Hid (w1.heap[w.heap.size]? = some (.cells #[.slice a n c, .bool sync, .bool anew] 54 (0, 0))) := hg1
  have hcases := fmR_cases l hd
  have hlb : frE J l = 0 → (l.flatMap frB).length ≤ 137438953472 := fun q => by
    rcases hcases with ⟨q1, _⟩ | ⟨q1, _⟩
    · have := fr_bound q1 (by omega); exact Nat.le_trans this (by omega)
    · rw [frE_bad hlv.dead q1] at q; cases q
  unfold PrPost at hFR
  have b0 : w1.cell? ⟨w.heap.size, 0, none⟩ = some (.slice a n c) := cell_of_row _ _ 0 _ _ _ hg1
  clear hS hE hl ha hnn hd hsk hkn hroom hok hvd hst hlv hb1 hsk1 hkn1 hY hYb hokc hal hg1
  go_enter Tryz.func15, Tryz.ntmps15
  go_wp2_with fail
  refine hFR.mono ?_
  clear hFR hw1 b0
  rintro e w2 ⟨v2, rfl, -, hb2⟩
  have HY : Hid (∀ V : World, (∀ k, Y k → V.heap[k]? = w1.heap[k]?) → V.cell? ⟨w.heap.size, 0, none⟩ = some (.slice a n c) ∧ V.cell? ⟨w.heap.size, 1, none⟩ = some (.bool sync) ∧ V.cell? ⟨w.heap.size, 2, none⟩ = some (.bool anew)) := fun V hV => by
    have := (hV _ H1.out.2.2.2.2.2.2.2.1).trans HB1.out
    exact ⟨cell_of_row _ _ 0 _ _ _ this, cell_of_row _ _ 1 _ _ _ this, cell_of_row _ _ 2 _ _ _ this⟩
  have hx2 : ∀ k, Y k → w2.heap[k]? = w1.heap[k]? := fun k hk => hb2.block k (H1.out.1.xs k hk).2.1
  have hsk2 := H1.out.1.later hb2
  have hWN := hsk2.write HG.out.1 H1.out.2.2.2.2.2.2.1 (by omega) [] none 0 0 false rfl (by omega) (.inl rfl) (fun r hr => by cases hr) hJn hJk (fun _ => by simp)
  rw [wr_nil H1.out.2.2.2.2.2.1.dead] at hWN
  simp only at hWN
  rw [evJ_nil] at hWN
  have HX2 : Hid (∀ k, Y k → w2.heap[k]? = w1.heap[k]?) := hx2
  clear hb2 hx2 hsk2
  generalize (fmR l).2 = bad at *
  go_wp2_with fail
  refine hWN.mono ?_
  clear hWN
  rintro e w3 ⟨rfl, hsk3, hx3⟩
  have HX3 : Hid (∀ k, Y k → w3.heap[k]? = w1.heap[k]?) := fun k hk => (hx3 k hk).trans (HX2.out k hk)
  obtain ⟨b0, b1, b2⟩ := HY.out w3 HX3.out
  have hrl3 : RLin w3 a l := HG.out.2.2.1.below hsk3.bel
  have HS3 : Hid (Sk W d j Y w3 D J ∧ Kn W w3 X kb S M A false anewed) := ⟨hsk3, H1.out.2.1.keep (fun k q => HX3.out k (HXY.out k q).1)⟩
  have hWR := hsk3.write HG.out.1 H1.out.2.2.2.2.2.2.1 (by omega) l a n c sync HG.out.2.2.2.2.1 (by omega) hrl3 HG.out.2.2.2.1 hJn hJk hlb
  have hRW := hsk3.rewrite HG.out.1 H1.out.2.2.2.2.2.2.1 (by omega) l a n c HG.out.2.2.2.2.1 (by omega) hrl3 HG.out.2.2.2.1 hlb
  clear hx3 hsk3 hrl3 HX2
  rcases hcases with ⟨hvl, hbad⟩ | ⟨hbl, hbad⟩
  · subst hbad
    have hroomb : ((fr (rcs S ++ rcs M)).length : Int) + (fr l).length ≤ D.room := by
      rw [H1.out.2.2.1]
      have := fr_bound hvl (by have := HG.out.2.2.2.2.1; omega)
      omega
    have hflb : (fr l).length ≤ 137438953472 := Nat.le_trans (fr_bound hvl (by have := HG.out.2.2.2.2.1; omega)) (by omega)
    obtain ⟨os, hos, hlc⟩ := lin_ro HG.out.2.2.1
    have hol : os.length = n := by rw [← HG.out.2.2.2.2.1, ← hos]; simp
    have HOS : Hid (rcs os = l ∧ Lc W a os ∧ Vd l ∧ (rlC os).length = n * 11) := ⟨hos, hlc, hvl, by rw [rlC_len, hol]⟩
    clear hos hlc
    cases anew with
    | true =>
      have hO := rw_lv H1.out.2.2.2.2.2.1 hvl hroomb
      have hokR := ok_rwX (J := J) (l := l) (C := 137438953472) H1.out.2.2.2.2.2.2.1 (fun _ => hvl.byt) hflb (by omega)
      have hrmR := (rw_room D J l).trans H1.out.2.2.1
      obtain ⟨⟨D', J', r⟩, hR⟩ : ∃ R : Dk × Jl × Nat, rwX D J l = R := ⟨_, rfl⟩
      unfold RwO at hO
      rw [hR] at hRW hO hokR hrmR
      simp only at hRW hO hokR hrmR
      clear hR hWR hroomb hflb hvl
      rcases hO with ⟨hr, hlv'⟩ | ⟨hr, hJ', hdd⟩
      · rw [hr, evJ_nil] at hRW
        have HN : Hid (Lv l [] D' J' ∧ D'.Ok 274877906944 ∧ D'.room = 4611686018427387904) := ⟨hlv', hokR, hrmR⟩
        clear hr hlv' hokR hrmR
        go_wp2_with fail
        refine hRW.mono ?_
        clear hRW b0 b1 b2
        rintro e w4 ⟨rfl, hsk4, hx4⟩
        have hNB := number_nil w4
        have HS4 : Hid (Sk W d j Y w4 D' J' ∧ Kn W w4 X kb S M A false anewed ∧ ∀ k, Y k → w4.heap[k]? = w1.heap[k]?) := ⟨hsk4, HS3.out.2.keep (fun k q => hx4 k (HXY.out k q).1), fun k q => (hx4 k q).trans (HX3.out k q)⟩
        clear hsk4 hx4
        go_wp2_with fail
        refine hNB.mono ?_
        clear hNB
        rintro e w5 ⟨rfl, hb5⟩
        have HS5 : Hid (Sk W d j Y w5 D' J' ∧ Kn W w5 X kb S M A false anewed ∧ ∀ k, Y k → w5.heap[k]? = w1.heap[k]?) := ⟨HS4.out.1.later hb5.out, HS4.out.2.1.keep (fun k hk => hb5.out.block k (HS4.out.1.xs k (HXY.out k hk).1).2.1), fun k q => (hb5.out.block k (HS4.out.1.xs k q).2.1).trans (HS4.out.2.2 k q)⟩
        clear hb5 HS4
        obtain ⟨b0, b1, b2⟩ := HY.out w5 HS5.out.2.2
        obtain ⟨w6, hw6⟩ : ∃ V, w5.alloc (.cells #[] 81) = V := ⟨_, rfl⟩
        have hb6 : Below w5.heap.size w5 w6 := by rw [← hw6]; exact (Below.refl _ _).alloc (Nat.le_refl _) _
        have hs6 : w6.heap.size = w5.heap.size + 1 := by rw [← hw6]; simp
        have hoe := own_empty w5 HS5.out.1.bel.size
        rw [hw6] at hoe
        have b06 := bel_cell hb6 b0
        have hkl := HS5.out.2.1.lt
        have HL6 : Hid (∀ ad, a = some ad → ∀ j u, (rlC os)[j]? = some u → w6.cell? (ad.add j) = some u) := (HOS.out.2.1.below (HS5.out.1.bel.trans (hb6.mono HS5.out.1.bel.size))).cel
        have hbs6 : W.heap.size ≤ w6.heap.size := Nat.le_trans HS5.out.1.bel.size hb6.size
        have HK6 : Hid (Below w5.heap.size w5 w6 ∧ w6.heap[kb]? = w5.heap[kb]?) := ⟨hb6, hb6.block kb hkl⟩
        have HOE : Hid (w6.ownsRow W.heap.size 81 11 (.slice (some ⟨w5.heap.size, 0, none⟩) 0 0) 0 []) := hoe
        clear hb6 hoe
        go_wp2_with (at_builtin; refine appR_wl rfl _ _ rfl W.heap.size (.slice (some ⟨w5.heap.size, 0, none⟩) 0 0) 0 [] rfl HOE.out a n c (rlC os) rfl HOS.out.2.2.2 HL6.out (rlC_one os) HG.out.2.2.2.2.2 (by omega) hbs6 ?_; intro v7 w7 r1 r2 r3; rw [Nat.zero_add, List.nil_append] at r1; obtain ⟨a7, c7, hv7⟩ := d_shape r1; have hk7 : w7.heap[kb]? = w5.heap[kb]? := (r2.block kb (by omega) (fun e => by have := Option.some.inj e; simp at this; omega)).trans HK6.out.2; have HR7 : Hid (w7.ownsRow W.heap.size 81 11 v7 n (rlC os) ∧ w6.grownBy w7 (some w5.heap.size) ∧ (∀ g, v7.ownBlock = some g → w5.heap.size ≤ g) ∧ w7.heap[kb]? = w5.heap[kb]?) := ⟨r1, r2, fun g e => by rcases r3 with q | q; (rw [q] at e; simp [Value.ownBlock] at e; omega); (rw [q] at e; simp at e; omega), hk7⟩; obtain ⟨sv, mv, a0, n0, c0, q1, -⟩ := HS5.out.2.1.mem; have g0 : w7.cell? ⟨kb, 0, none⟩ = some sv := cell_of_row _ _ 0 _ _ _ (hk7.trans q1); have g1 : w7.cell? ⟨kb, 1, none⟩ = some mv := cell_of_row _ _ 1 _ _ _ (hk7.trans q1); have z0 : w7.frozen? ⟨kb, 0, none⟩ = false := frozen_of_row _ _ 0 _ _ (hk7.trans q1); have z1 : w7.frozen? ⟨kb, 1, none⟩ = false := frozen_of_row _ _ 1 _ _ (hk7.trans q1); clear r1 r2 r3 hk7 q1; subst hv7)
        go_ret
        have hr7 : Rr W.heap.size w7 (.slice a7 n c7) os := by
          show World.ownsRow _ _ _ _ _ _ _
          rw [hol]
          exact HR7.out.1
        obtain ⟨hkn8, hK8⟩ := kn_anew0 HS5.out.2.1 (fun k q => (HS5.out.1.xs k (HXY.out k q).1).2.1) (U := w7) HOS.out.2.1.inn (kd_grow (Kd.below HK6.out.1) HR7.out.2.1 (fun g e => .inr (by cases e; exact Nat.le_refl _))) HR7.out.2.2.2 hr7 HR7.out.2.2.1
        have hsk8 := HS5.out.1.law (hK8.mono (fun k _ q => (HXY.out k q).1))
        refine ⟨rfl, os, [], false, ⟨_, D', J', A, anewed, hsk8, hkn8.more (fun k q => q.imp (fun q => (HXY.out k q).1) (fun q => ⟨q.1, by simpa [World.setCell] using q.2⟩)), HN.out.2.2, HN.out.2.1, ?_, .inl ⟨rfl, ?_⟩⟩, ?_⟩
        · show Vd (rcs os ++ [])
          rw [List.append_nil, HOS.out.1]; exact HOS.out.2.2.1
        · show Lv (rcs os) [] D' J'
          rw [HOS.out.1]; exact HN.out.1
        · simp; omega
      · have HN : Hid (D'.Ok 274877906944 ∧ D'.room = 4611686018427387904 ∧ J' = ⟨0, 0, true⟩ ∧ (Dd (rcs S) (rcs M) D'.fs ∨ Dd l [] D'.fs)) := ⟨hokR, hrmR, hJ', hdd⟩
        clear hokR hrmR hJ' hdd
        rw [hr, show evJ aD aF aN 2 = .iface 218 (.pointer (some aD)) from rfl] at hRW
        clear hr
        go_wp2_with fail
        refine hRW.mono ?_
        clear hRW b0 b1 b2
        rintro e w4 ⟨rfl, hsk4, hx4⟩
        obtain ⟨F4, -, -, -, hS4, -⟩ := hsk4.w0 HG.out.1
        have hNB := number_down w4 F4 aD aF aN hS4
        have HS4 : Hid (Sk W d j Y w4 D' J' ∧ Kn W w4 X kb S M A false anewed ∧ ∀ k, Y k → w4.heap[k]? = w1.heap[k]?) := ⟨hsk4, HS3.out.2.keep (fun k q => hx4 k (HXY.out k q).1), fun k q => (hx4 k q).trans (HX3.out k q)⟩
        clear hsk4 hx4 hS4
        go_wp2_with fail
        refine hNB.mono ?_
        clear hNB
        rintro e w5 ⟨rfl, hb5⟩
        have HS5 : Hid (Sk W d j Y w5 D' J' ∧ Kn W w5 X kb S M A false anewed ∧ ∀ k, Y k → w5.heap[k]? = w1.heap[k]?) := ⟨HS4.out.1.later hb5.out, HS4.out.2.1.keep (fun k hk => hb5.out.block k (HS4.out.1.xs k (HXY.out k hk).1).2.1), fun k q => (hb5.out.block k (HS4.out.1.xs k q).2.1).trans (HS4.out.2.2 k q)⟩
        clear hb5 HS4
        obtain ⟨b0, b1, b2⟩ := HY.out w5 HS5.out.2.2
        obtain ⟨sv, mv, a0, n0, c0, q1, q2, q3, q4, q5, q6, q7⟩ := HS5.out.2.1.mem
        have g2 : w5.cell? ⟨kb, 2, none⟩ = some (.slice a0 n0 c0) := cell_of_row _ _ 2 _ _ _ q1
        have g3 : w5.cell? ⟨kb, 3, none⟩ = some (.bool false) := cell_of_row _ _ 3 _ _ _ q1
        have g4 : w5.cell? ⟨kb, 4, none⟩ = some (.bool anewed) := cell_of_row _ _ 4 _ _ _ q1
        have z2 : w5.frozen? ⟨kb, 2, none⟩ = false := frozen_of_row _ _ 2 _ _ q1
        have z3 : w5.frozen? ⟨kb, 3, none⟩ = false := frozen_of_row _ _ 3 _ _ q1
        have z4 : w5.frozen? ⟨kb, 4, none⟩ = false := frozen_of_row _ _ 4 _ _ q1
        have hkw : kb ≠ w.heap.size := by have := (HXY.out kb HS5.out.2.1.kx).2; omega
        clear q1 q2 q3 q4 q5 q6 q7
        have hkn8 := kn_anew (c := c) (kn_anewed (kn_dead HS5.out.2.1) true) HG.out.2.2.2.2.1 HG.out.2.2.1
        have hK8 : Kd X w5 ((((w5.setCell ⟨kb, 3, none⟩ (.bool true)).setCell ⟨kb, 4, none⟩ (.bool true)).setCell ⟨kb, 2, none⟩ (.slice a n c))) := kd_to (kd_to (kd_to (Kd.refl _ _) HS5.out.2.1.kx) HS5.out.2.1.kx) HS5.out.2.1.kx
        have hsk8 := HS5.out.1.law (hK8.mono (fun k _ q => (HXY.out k q).1))
        have HF8 : Hid (Bst W d j kb (cnt + n) (((w5.setCell ⟨kb, 3, none⟩ (.bool true)).setCell ⟨kb, 4, none⟩ (.bool true)).setCell ⟨kb, 2, none⟩ (.slice a n c)) S M true) := by
          refine ⟨⟨_, D', J', l, true, hsk8, hkn8.more (fun k q => .inl (HXY.out k q).1), HN.out.2.1, HN.out.1, H1.out.2.2.2.2.1, .inr ⟨rfl, HN.out.2.2.1, HN.out.2.2.2.imp id (fun q => ⟨rfl, HOS.out.2.2.1, by have := HG.out.2.2.2.2.1; omega, q⟩)⟩⟩, Nat.le_trans H1.out.2.2.2.2.2.2.2.2 (Nat.le_add_right _ _)⟩
        clear hkn8 hK8 hsk8
        go_wp2
        go_ret
        exact ⟨rfl, S, M, true, HF8.out⟩
    | false =>
      have hO := wr_lv H1.out.2.2.2.2.2.1 hvl hroomb sync
      have hokR := ok_wrX (J := J) (l := l) (sync := sync) (C := 137438953472) H1.out.2.2.2.2.2.2.1 (fun _ => hvl.byt) hflb (by omega)
      have hrmR := (wr_room D J l sync).trans H1.out.2.2.1
      obtain ⟨⟨D', J', r⟩, hR⟩ : ∃ R : Dk × Jl × Nat, wrX D J l sync = R := ⟨_, rfl⟩
      unfold WrO at hO
      rw [hR] at hWR hO hokR hrmR
      simp only at hWR hO hokR hrmR
      clear hR hRW hroomb hflb hvl
      rcases hO with ⟨hr, hlv'⟩ | ⟨hr, hJ', hdd⟩
      · rw [hr, evJ_nil] at hWR
        have HN : Hid (D'.Ok 274877906944 ∧ D'.room = 4611686018427387904 ∧ Lv (if sync = true then rcs S ++ (rcs M ++ l) else rcs S) (if sync = true then [] else rcs M ++ l) D' J') := ⟨hokR, hrmR, hlv'⟩
        clear hr hlv' hokR hrmR
        go_wp2_with fail
        refine hWR.mono ?_
        clear hWR b0 b1 b2
        rintro e w4 ⟨rfl, hsk4, hx4⟩
        have hNB := number_nil w4
        have HS4 : Hid (Sk W d j Y w4 D' J' ∧ Kn W w4 X kb S M A false anewed ∧ ∀ k, Y k → w4.heap[k]? = w1.heap[k]?) := ⟨hsk4, HS3.out.2.keep (fun k q => hx4 k (HXY.out k q).1), fun k q => (hx4 k q).trans (HX3.out k q)⟩
        clear hsk4 hx4
        go_wp2_with fail
        refine hNB.mono ?_
        clear hNB
        rintro e w5 ⟨rfl, hb5⟩
        have HS7 : Hid (Sk W d j Y w5 D' J' ∧ Kn W w5 X kb S M A false anewed ∧ ∀ k, Y k → w5.heap[k]? = w1.heap[k]?) := ⟨HS4.out.1.later hb5.out, HS4.out.2.1.keep (fun k hk => hb5.out.block k (HS4.out.1.xs k (HXY.out k hk).1).2.1), fun k q => (hb5.out.block k (HS4.out.1.xs k q).2.1).trans (HS4.out.2.2 k q)⟩
        clear hb5 HS4
        obtain ⟨b0, b1, b2⟩ := HY.out w5 HS7.out.2.2
        have hkw : kb ≠ w.heap.size := by have := (HXY.out kb HS7.out.2.1.kx).2; omega
        go_upto_region 24 with fail
        obtain ⟨sv, mv, a0, n0, c0, q1, q2, q3, q4, q5, q6, q7⟩ := HS7.out.2.1.mem
        obtain ⟨am, cm, hmv⟩ := d_shape q3
        have hxl : ∀ k, X k → k < w5.heap.size := fun k q => (HS7.out.1.xs k (HXY.out k q).1).2.1
        have hbk : ∀ g, mv.ownBlock = some g → g ≠ w.heap.size := fun g e => by have := (HXY.out g (q5 g e).1).2; omega
        have hbbl := cell_lt b0
        have hxk : ∀ V : World, w5.drew.grownBy V mv.ownBlock → V.cell? ⟨w.heap.size, 0, none⟩ = some (.slice a n c) := fun V hV => (World.cell?_of_block (a := ⟨w.heap.size, 0, none⟩) (hV.block w.heap.size hbbl (fun e => hbk _ e.symm rfl))).trans b0
        have hxk1 : ∀ V : World, w5.drew.grownBy V mv.ownBlock → V.cell? ⟨w.heap.size, 1, none⟩ = some (.bool sync) := fun V hV => (World.cell?_of_block (a := ⟨w.heap.size, 1, none⟩) (hV.block w.heap.size hbbl (fun e => hbk _ e.symm rfl))).trans b1
        subst hmv
        refine regB24 _ kb w.heap.size am M.length cm M.length W.heap.size a n c (rlC os) #[sv, .slice am M.length cm, .slice a0 n0 c0, .bool false, .bool anewed] (rlC M) w5 q3 HOS.out.2.2.2 (HOS.out.2.1.below HS7.out.1.bel).cel (rlC_one os) HG.out.2.2.2.2.2 (by have := H1.out.2.2.2.2.2.2.2.2; omega) HS7.out.1.bel.size q1 rfl (fun e => (q5 kb e).2 rfl) hxk (fun V hV y => set_cell (hxk V hV) (fun e => hkw e.symm)) ?_
        intro v8 w8 r1 r2 r3 r4
        have r2' : w5.grownBy w8 (Value.slice am M.length cm).ownBlock := ⟨r2.os, r2.tape, r2.output, r2.size, r2.block⟩
        rw [← hol] at r1
        obtain ⟨hkn8, hK8⟩ := kn_more HS7.out.2.1 hxl q1 q2 q4 q5 q6 q7 HOS.out.2.1.inn r1 r2' r3
        have b18 : (w8.setCell ⟨kb, 1, none⟩ v8).cell? ⟨w.heap.size, 1, none⟩ = some (.bool sync) := set_cell (hxk1 w8 r2) (fun e => hkw e.symm)
        have hsk8 := HS7.out.1.law (hK8.mono (fun k _ q => (HXY.out k q).1))
        obtain ⟨a8, c8, hv8⟩ := d_shape r1
        have hvdn : Vd (rcs S ++ rcs (M ++ os)) := by
          rw [show rcs (M ++ os) = rcs M ++ rcs os from List.map_append, HOS.out.1, ← List.append_assoc]
          exact H1.out.2.2.2.2.1.app HOS.out.2.2.1
        have hcn : S.length + (M ++ os).length ≤ cnt + n := by have := H1.out.2.2.2.2.2.2.2.2; rw [List.length_append]; omega
        obtain ⟨w9, hw9⟩ : ∃ V, w8.setCell ⟨kb, 1, none⟩ v8 = V := ⟨_, rfl⟩
        have hs9 : w9.heap.size = w8.heap.size := by rw [← hw9]; simp [World.setCell]
        rw [hw9] at hkn8 hsk8 b18 ⊢
        have HS9 : Hid (Sk W d j (fun k => Y k ∨ (w5.heap.size ≤ k ∧ k < w9.heap.size)) w9 D' J' ∧ Kn W w9 (fun k => X k ∨ (w5.heap.size ≤ k ∧ k < w8.heap.size)) kb S (M ++ os) A false anewed ∧ Vd (rcs S ++ rcs (M ++ os)) ∧ S.length + (M ++ os).length ≤ cnt + n ∧ ∀ k, (X k ∨ (w5.heap.size ≤ k ∧ k < w8.heap.size)) → Y k ∨ (w5.heap.size ≤ k ∧ k < w9.heap.size)) := ⟨hsk8, hkn8, hvdn, hcn, fun k q => q.imp (fun q => (HXY.out k q).1) (fun q => ⟨q.1, by omega⟩)⟩
        have hel : ∀ V : World, v8 = .slice a8 (M.length + os.length) c8 → True := fun _ _ => trivial
        rw [hv8]
        clear hkn8 hK8 hsk8 q1 q2 q3 q4 q5 q6 q7 r1 r2 r2' r3 r4 hxl hbk hxk hxk1 hvdn hcn hw9 hv8 hel b0 b1 b2 hbbl
        cases sync with
        | false =>
          go_wp2
          go_ret
          refine ⟨rfl, S, M ++ os, false, ⟨_, D', J', A, anewed, HS9.out.1, HS9.out.2.1.more HS9.out.2.2.2.2, HN.out.2.1, HN.out.1, HS9.out.2.2.1, .inl ⟨rfl, ?_⟩⟩, HS9.out.2.2.2.1⟩
          rw [show rcs (M ++ os) = rcs M ++ rcs os from List.map_append, HOS.out.1]
          exact HN.out.2.2
        | true =>
          go_upto_region 26 with fail
          obtain ⟨sv, mv, a0, n0, c0, q1, q2, q3, q4, q5, q6, q7⟩ := HS9.out.2.1.mem
          obtain ⟨asv, csv, hsv⟩ := d_shape q2
          obtain ⟨am2, cm2, hmv2⟩ := d_shape q3
          have hxl : ∀ k, (X k ∨ (w5.heap.size ≤ k ∧ k < w8.heap.size)) → k < w9.heap.size := fun k q => (HS9.out.1.xs k (HS9.out.2.2.2.2 k q)).2.1
          have hkl := HS9.out.2.1.lt
          have hxk : ∀ V : World, w9.drew.grownBy V sv.ownBlock → V.cell? ⟨kb, 1, none⟩ = some mv := fun V hV => (World.cell?_of_block (a := ⟨kb, 1, none⟩) (hV.block kb hkl (fun e => (q4 kb e.symm).2 rfl))).trans (cell_of_row _ _ 1 _ _ _ q1)
          have hxw : ∀ V : World, w9.drew.grownBy V sv.ownBlock → ∀ y, (V.setCell ⟨kb, 0, none⟩ y).cell? ⟨kb, 1, none⟩ = some mv := fun V hV y => by
            have hq : V.heap[kb]? = _ := (hV.block kb hkl (fun e => (q4 kb e.symm).2 rfl)).trans q1
            have hq2 : (V.setCell ⟨kb, 0, none⟩ y).heap[kb]? = _ := heap_setCell_same V kb 0 _ _ _ hq
            exact cell_of_row _ _ 1 _ _ _ hq2
          have hmc : ∀ ad, am2 = some ad → ∀ j u, (rlC (M ++ os))[j]? = some u → w9.drew.cell? (ad.add j) = some u := by
            rw [hmv2] at q3
            exact Rr.cells q3
          have hmn : am2 = none → (M ++ os).length = 0 ∧ cm2 = 0 := by
            rw [hmv2] at q3
            exact Rr.none q3
          subst hsv
          subst hmv2
          refine regB26 _ kb asv S.length csv S.length W.heap.size am2 (M ++ os).length cm2 (rlC (M ++ os)) #[.slice asv S.length csv, .slice am2 (M ++ os).length cm2, .slice a0 n0 c0, .bool false, .bool anewed] (rlC S) w9 q2 (rlC_len _) hmc (rlC_one _) hmn (by have := HS9.out.2.2.2.1; omega) HS9.out.1.bel.size q1 rfl (fun e => (q4 kb e).2 rfl) hxk hxw ?_
          intro v10 w10 r1 r2 r3 r4
          have r2' : w9.grownBy w10 (Value.slice asv S.length csv).ownBlock := ⟨r2.os, r2.tape, r2.output, r2.size, r2.block⟩
          obtain ⟨hkn10, hK10⟩ := kn_sure HS9.out.2.1 hxl q1 q3 q4 q5 q6 q7 r1 r2' r3
          have hsk10 := HS9.out.1.law (hK10.mono (fun k _ q => HS9.out.2.2.2.2 k q))
          obtain ⟨w11, hw11⟩ : ∃ V, w10.setCell ⟨kb, 0, none⟩ v10 = V := ⟨_, rfl⟩
          have hs11 : w11.heap.size = w10.heap.size := by rw [← hw11]; simp [World.setCell]
          rw [hw11] at hkn10 hsk10 ⊢
          obtain ⟨a10, c10, hv10⟩ := d_shape r1
          rw [hv10]
          obtain ⟨Z, hZ⟩ : ∃ Z : Nat → Prop, (fun k => (Y k ∨ (w5.heap.size ≤ k ∧ k < w9.heap.size)) ∨ (w9.heap.size ≤ k ∧ k < w11.heap.size)) = Z := ⟨_, rfl⟩
          have hkn11 : Kn W w11 Z kb (S ++ (M ++ os)) (M ++ os) A false anewed := hkn10.more (fun k q => by rw [← hZ]; exact q.imp (HS9.out.2.2.2.2 k) (fun q => ⟨q.1, by omega⟩))
          rw [hZ] at hsk10
          have hkn12 := kn_nil hkn11
          have hsk12 := hsk10.law (kd_to (v := .slice none 0 0) (i := 1) (Kd.refl _ _) hkn11.kx)
          obtain ⟨s2, m2, a2, n2, c2, t1, -⟩ := hkn11.mem
          have g1 : w11.cell? ⟨kb, 1, none⟩ = some m2 := cell_of_row _ _ 1 _ _ _ t1
          have z1 : w11.frozen? ⟨kb, 1, none⟩ = false := frozen_of_row _ _ 1 _ _ t1
          have HF : Hid (Bst W d j kb (cnt + n) (w11.setCell ⟨kb, 1, none⟩ (.slice none 0 0)) (S ++ (M ++ os)) [] false) := by
            have hsm : rcs (S ++ (M ++ os)) = rcs S ++ (rcs M ++ l) := by rw [show rcs (S ++ (M ++ os)) = rcs S ++ rcs (M ++ os) from List.map_append, show rcs (M ++ os) = rcs M ++ rcs os from List.map_append, HOS.out.1]
            refine ⟨⟨_, D', J', A, anewed, hsk12, hkn12.more (fun k q => .inl q), HN.out.2.1, HN.out.1, ?_, .inl ⟨rfl, ?_⟩⟩, ?_⟩
            · show Vd (rcs (S ++ (M ++ os)) ++ [])
              rw [List.append_nil, show rcs (S ++ (M ++ os)) = rcs S ++ rcs (M ++ os) from List.map_append]
              exact HS9.out.2.2.1
            · show Lv (rcs (S ++ (M ++ os))) [] D' J'
              rw [hsm]
              exact HN.out.2.2
            · have := HS9.out.2.2.2.1
              rw [List.length_append]
              simp at this ⊢
              omega
          clear hkn10 hK10 hsk10 hkn11 hkn12 hsk12 t1 q1 q2 q3 q4 q5 q6 q7 r1 r2 r2' r3 r4 hxl hkl hxk hxw hmc hmn hw11 hv10 hZ hs11
          go_wp2
          go_ret
          exact ⟨rfl, S ++ (M ++ os), [], false, HF.out⟩
      · have HN : Hid (D'.Ok 274877906944 ∧ D'.room = 4611686018427387904 ∧ J' = ⟨0, 0, true⟩ ∧ Dd (rcs S) (rcs M ++ l) D'.fs) := ⟨hokR, hrmR, hJ', hdd⟩
        clear hokR hrmR hJ' hdd
        rw [hr, show evJ aD aF aN 2 = .iface 218 (.pointer (some aD)) from rfl] at hWR
        clear hr
        go_wp2_with fail
        refine hWR.mono ?_
        clear hWR b0 b1 b2
        rintro e w4 ⟨rfl, hsk4, hx4⟩
        obtain ⟨F4, -, -, -, hS4, -⟩ := hsk4.w0 HG.out.1
        have hNB := number_down w4 F4 aD aF aN hS4
        have HS4 : Hid (Sk W d j Y w4 D' J' ∧ Kn W w4 X kb S M A false anewed ∧ ∀ k, Y k → w4.heap[k]? = w1.heap[k]?) := ⟨hsk4, HS3.out.2.keep (fun k q => hx4 k (HXY.out k q).1), fun k q => (hx4 k q).trans (HX3.out k q)⟩
        clear hsk4 hx4 hS4
        go_wp2_with fail
        refine hNB.mono ?_
        clear hNB
        rintro e w5 ⟨rfl, hb5⟩
        have HS5 : Hid (Sk W d j Y w5 D' J' ∧ Kn W w5 X kb S M A false anewed ∧ ∀ k, Y k → w5.heap[k]? = w1.heap[k]?) := ⟨HS4.out.1.later hb5.out, HS4.out.2.1.keep (fun k hk => hb5.out.block k (HS4.out.1.xs k (HXY.out k hk).1).2.1), fun k q => (hb5.out.block k (HS4.out.1.xs k q).2.1).trans (HS4.out.2.2 k q)⟩
        clear hb5 HS4
        obtain ⟨b0, b1, b2⟩ := HY.out w5 HS5.out.2.2
        obtain ⟨sv, mv, a0, n0, c0, q1, q2, q3, q4, q5, q6, q7⟩ := HS5.out.2.1.mem
        have g2 : w5.cell? ⟨kb, 2, none⟩ = some (.slice a0 n0 c0) := cell_of_row _ _ 2 _ _ _ q1
        have g3 : w5.cell? ⟨kb, 3, none⟩ = some (.bool false) := cell_of_row _ _ 3 _ _ _ q1
        have g4 : w5.cell? ⟨kb, 4, none⟩ = some (.bool anewed) := cell_of_row _ _ 4 _ _ _ q1
        have z2 : w5.frozen? ⟨kb, 2, none⟩ = false := frozen_of_row _ _ 2 _ _ q1
        have z3 : w5.frozen? ⟨kb, 3, none⟩ = false := frozen_of_row _ _ 3 _ _ q1
        have z4 : w5.frozen? ⟨kb, 4, none⟩ = false := frozen_of_row _ _ 4 _ _ q1
        have hkw : kb ≠ w.heap.size := by have := (HXY.out kb HS5.out.2.1.kx).2; omega
        have hkn7 := kn_anewed (kn_dead HS5.out.2.1) false
        have hK7 : Kd X w5 ((w5.setCell ⟨kb, 3, none⟩ (.bool true)).setCell ⟨kb, 4, none⟩ (.bool false)) := kd_to (kd_to (Kd.refl _ _) HS5.out.2.1.kx) HS5.out.2.1.kx
        obtain ⟨w7, hw7⟩ : ∃ V, (w5.setCell ⟨kb, 3, none⟩ (.bool true)).setCell ⟨kb, 4, none⟩ (.bool false) = V := ⟨_, rfl⟩
        rw [hw7] at hkn7 hK7
        have b07 : w7.cell? ⟨w.heap.size, 0, none⟩ = some (.slice a n c) := by rw [← hw7]; exact set_cell (set_cell b0 (fun e => hkw e.symm)) (fun e => hkw e.symm)
        have b27 : w7.cell? ⟨w.heap.size, 2, none⟩ = some (.bool false) := by rw [← hw7]; exact set_cell (set_cell b2 (fun e => hkw e.symm)) (fun e => hkw e.symm)
        have HS7 : Hid (Sk W d j (fun k => Y k ∨ (w5.heap.size ≤ k ∧ k < w7.heap.size)) w7 D' J' ∧ Kn W w7 X kb S M A true false ∧ w7.cell? ⟨w.heap.size, 0, none⟩ = some (.slice a n c) ∧ w5.heap.size ≤ w7.heap.size ∧ w.heap.size < w7.heap.size) := ⟨HS5.out.1.law (hK7.mono (fun k _ q => (HXY.out k q).1)), hkn7, b07, hK7.size, cell_lt b07⟩
        clear q1 q2 q3 q4 q5 q6 q7 hkn7 hK7
        go_upto_region 16 with fail
        clear hw7 g2 g3 g4 z2 z3 z4 b0 b1 b2
        obtain ⟨sv, mv, a0, n0, c0, q1, q2, q3, q4, q5, q6, q7⟩ := HS7.out.2.1.mem
        obtain ⟨am, cm, hmv⟩ := d_shape q3
        have hxl : ∀ k, X k → k < w7.heap.size := fun k q => (HS7.out.1.xs k (.inl (HXY.out k q).1)).2.1
        have hbk : ∀ g, mv.ownBlock = some g → g ≠ w.heap.size := fun g e => by have := (HXY.out g (q5 g e).1).2; omega
        have hxk : ∀ V : World, w7.drew.grownBy V mv.ownBlock → V.cell? ⟨w.heap.size, 0, none⟩ = some (.slice a n c) := fun V hV => (World.cell?_of_block (a := ⟨w.heap.size, 0, none⟩) (hV.block w.heap.size HS7.out.2.2.2.2 (fun e => hbk _ e.symm rfl))).trans HS7.out.2.2.1
        subst hmv
        refine regB16 _ kb w.heap.size am M.length cm M.length W.heap.size a n c (rlC os) #[sv, .slice am M.length cm, .slice a0 n0 c0, .bool true, .bool false] (rlC M) w7 q3 HOS.out.2.2.2 (HOS.out.2.1.below HS7.out.1.bel).cel (rlC_one os) HG.out.2.2.2.2.2 (by have := H1.out.2.2.2.2.2.2.2.2; omega) HS7.out.1.bel.size q1 rfl (fun e => (q5 kb e).2 rfl) hxk (fun V hV y => set_cell (hxk V hV) (fun e => hkw e.symm)) ?_
        intro v8 w8 r1 r2 r3 r4
        have r2' : w7.grownBy w8 (Value.slice am M.length cm).ownBlock := ⟨r2.os, r2.tape, r2.output, r2.size, r2.block⟩
        rw [← hol] at r1
        obtain ⟨hkn8, hK8⟩ := kn_more HS7.out.2.1 hxl q1 q2 q4 q5 q6 q7 HOS.out.2.1.inn r1 r2' r3
        have hsk8 := HS7.out.1.law (hK8.mono (fun k _ q => .inl (HXY.out k q).1))
        have HF8 : Hid (Bst W d j kb (cnt + n) (w8.setCell ⟨kb, 1, none⟩ v8) S (M ++ os) true) := by
          have hvdn : Vd (rcs S ++ rcs (M ++ os)) := by
            rw [show rcs (M ++ os) = rcs M ++ rcs os from List.map_append, HOS.out.1, ← List.append_assoc]
            exact H1.out.2.2.2.2.1.app HOS.out.2.2.1
          refine ⟨⟨_, D', J', A, false, hsk8, hkn8.more (fun k q => q.imp (fun q => .inl (HXY.out k q).1) (fun q => ⟨q.1, by simpa [World.setCell] using q.2⟩)), HN.out.2.1, HN.out.1, hvdn, .inr ⟨rfl, HN.out.2.2.1, .inl ?_⟩⟩, ?_⟩
          · rw [show rcs (M ++ os) = rcs M ++ rcs os from List.map_append, HOS.out.1]
            exact HN.out.2.2.2
          · have := H1.out.2.2.2.2.2.2.2.2
            rw [List.length_append]
            omega
        clear hkn8 hK8 hsk8 q1 q2 q3 q4 q5 q6 q7 r1 r2 r2' r3 r4 hxl hbk hxk
        go_wp2
        go_ret
        exact ⟨rfl, S, M ++ os, true, HF8.out⟩
  · subst hbad
    have hf60 : frE J l = 60 := frE_bad H1.out.2.2.2.2.2.1.dead hbl
    have e1 : wrX D J l sync = (D, J, 60) := by unfold wrX; rw [hf60, if_neg (by omega)]
    have e2 : rwX D J l = (D, J, 60) := by unfold rwX; rw [hf60, if_neg (by omega)]
    rw [e1] at hWR
    rw [e2] at hRW
    simp only at hWR hRW
    rw [evJ_e (by omega)] at hWR hRW
    clear e1 e2 hf60 hbl
    cases anew with
    | true =>
      go_wp2_with fail
      refine hRW.mono ?_
      clear hWR hRW
      rintro e w4 ⟨rfl, hsk4, hx4⟩
      obtain ⟨F4, -, -, -, hS4, -⟩ := hsk4.w0 HG.out.1
      have hNB := number_errno w4 F4 aD aF aN 60 hS4 (HG.out.2.1.below hsk4.bel)
      have HS4 : Hid (Sk W d j Y w4 D J ∧ Kn W w4 X kb S M A false anewed) := ⟨hsk4, HS3.out.2.keep (fun k q => hx4 k (HXY.out k q).1)⟩
      clear hsk4 hx4 hS4
      go_wp2_with fail
      refine hNB.mono ?_
      clear hNB
      rintro e w5 ⟨rfl, hb5⟩
      have HS5 : Hid (Sk W d j Y w5 D J ∧ Kn W w5 X kb S M A false anewed) := ⟨HS4.out.1.later hb5.out, HS4.out.2.keep (fun k hk => hb5.out.block k (HS4.out.1.xs k (HXY.out k hk).1).2.1)⟩
      clear hb5
      go_wp2
      go_ret
      exact ⟨rfl, S, M, false, ⟨Y, D, J, A, anewed, HS5.out.1, HS5.out.2.more (fun k q => (HXY.out k q).1), H1.out.2.2.1, H1.out.2.2.2.1, H1.out.2.2.2.2.1, .inl ⟨rfl, H1.out.2.2.2.2.2.1⟩⟩, Nat.le_trans H1.out.2.2.2.2.2.2.2.2 (Nat.le_add_right _ _)⟩
    | false =>
      go_wp2_with fail
      refine hWR.mono ?_
      clear hWR hRW
      rintro e w4 ⟨rfl, hsk4, hx4⟩
      obtain ⟨F4, -, -, -, hS4, -⟩ := hsk4.w0 HG.out.1
      have hNB := number_errno w4 F4 aD aF aN 60 hS4 (HG.out.2.1.below hsk4.bel)
      have HS4 : Hid (Sk W d j Y w4 D J ∧ Kn W w4 X kb S M A false anewed) := ⟨hsk4, HS3.out.2.keep (fun k q => hx4 k (HXY.out k q).1)⟩
      clear hsk4 hx4 hS4
      go_wp2_with fail
      refine hNB.mono ?_
      clear hNB
      rintro e w5 ⟨rfl, hb5⟩
      have HS5 : Hid (Sk W d j Y w5 D J ∧ Kn W w5 X kb S M A false anewed) := ⟨HS4.out.1.later hb5.out, HS4.out.2.keep (fun k hk => hb5.out.block k (HS4.out.1.xs k (HXY.out k hk).1).2.1)⟩
      clear hb5
      go_wp2
      go_ret
      exact ⟨rfl, S, M, false, ⟨Y, D, J, A, anewed, HS5.out.1, HS5.out.2.more (fun k q => (HXY.out k q).1), H1.out.2.2.1, H1.out.2.2.2.1, H1.out.2.2.2.2.1, .inl ⟨rfl, H1.out.2.2.2.2.2.1⟩⟩, Nat.le_trans H1.out.2.2.2.2.2.2.2.2 (Nat.le_add_right _ _)⟩
end Go.Proofs.YtllhbhogfffedaaGreatDoor.K
