import Derived.Test.YtlagadpfnkidjacOwe
namespace Go.Proofs.Ytlagadpfnkidjac
open Go.RowKit

/-- A book that is being filled. -/
structure Bkp (W : World) (lo Bk : Nat) (lv : Value) (cs : List Rw) : Prop where
  book : Book W Bk lv (.slice none 0 0)
  row : W.ownsRow lo 22 1 lv cs.length (cs.map (·.1))
  cl : Cl W lo (fun g => g = Bk ∨ lv.ownBlock = some g) cs
  small : ∀ x ∈ cs, x.2.length ≤ 1048576
  lo : lo ≤ Bk
  ne : lv.ownBlock ≠ some Bk

theorem Bkp.bks {W : World} {lo Bk : Nat} {lv : Value} {cs : List Rw} (h : Bkp W lo Bk lv cs) (hp : 0 < cs.length) : ∃ L cap, Bks W lo Bk L cap cs.length cs ∧ lv.ownBlock = some L := by
  obtain ⟨L, cap, hv⟩ := own_some h.row hp
  have h1 := h.book
  have h2 := h.row
  have h3 := h.cl
  have h4 := h.ne
  rw [hv] at h1 h2 h3 h4
  refine ⟨L, cap, ⟨h1, h2, h3.mono (fun j x hx g hg hq => ?_), rfl, h.small, h.lo, fun e => h4 (by rw [e]; rfl)⟩, by rw [hv]; rfl⟩
  rcases hq with hq | hq
  · exact h3.off j x hx g hg (.inl hq)
  · exact h3.off j x hx g hg (.inr (by rw [hq]; rfl))

theorem Bkp.start {W : World} {lo : Nat} (hl : lo ≤ W.heap.size) : Bkp (W.alloc (.cells #[.slice none 0 0, .slice none 0 0] 30)) lo W.heap.size (.slice none 0 0) [] :=
  ⟨heap_alloc_new' _ _, World.ownsRow_nil _ _ _ _, ⟨(fun j x hx => by simp at hx), (fun j k x y _ hx => by simp at hx), fun j x hx => by simp at hx⟩, (fun x hx => by cases hx), hl, by simp [Value.ownBlock]⟩

/-- What does not touch the book and its rows. -/
theorem Bkp.below {W W' : World} {lo Bk : Nat} {lv : Value} {cs : List Rw} (h : Bkp W lo Bk lv cs) (hb : Below W.heap.size W W') : Bkp W' lo Bk lv cs := by
  refine ⟨(hb.block Bk h.book.lt).trans h.book, ?_, ⟨fun j x hx => (h.cl.own j x hx).below hb, h.cl.apt, h.cl.off⟩, h.small, h.lo, h.ne⟩
  refine ⟨h.row.1, ?_⟩
  rcases h.row.2 with q | ⟨g, cap, cur, hv, h1, h2, h3⟩
  · exact .inl q
  · exact .inr ⟨g, cap, cur, hv, h1, (hb.block g (h.row.lt g (by rw [hv]; rfl)).2).trans h2, h3⟩

theorem Cl.snoc {W : World} {lo : Nat} {off : Nat → Prop} {cs : List Rw} {x : Rw} (h : Cl W lo off cs) (hx : SOwn W lo x.1 x.2) (ho : ∀ g, x.1.ownBlock = some g → ¬ off g) (ha : ∀ (j : Nat) y, cs[j]? = some y → ∀ g, x.1.ownBlock = some g → y.1.ownBlock ≠ some g) : Cl W lo off (cs ++ [x]) := by
  have get : ∀ (j : Nat) y, (cs ++ [x])[j]? = some y → (cs[j]? = some y ∧ j < cs.length) ∨ (y = x ∧ j = cs.length) := fun j y hy => by
    by_cases hj : j < cs.length
    · rw [List.getElem?_append_left hj] at hy; exact .inl ⟨hy, hj⟩
    · rw [List.getElem?_append_right (by omega)] at hy
      by_cases hz : j - cs.length = 0
      · rw [hz] at hy; simp at hy; exact .inr ⟨hy.symm, by omega⟩
      · rw [List.getElem?_eq_none (by simp; omega)] at hy; cases hy
  refine ⟨fun j y hy => ?_, fun j k y z hjk hy hz g hg => ?_, fun j y hy g hg => ?_⟩
  · rcases get j y hy with ⟨q, _⟩ | ⟨rfl, _⟩
    · exact h.own j y q
    · exact hx
  · rcases get j y hy with ⟨q, _⟩ | ⟨rfl, e1⟩
    · rcases get k z hz with ⟨r, _⟩ | ⟨rfl, _⟩
      · exact h.apt j k y z hjk q r g hg
      · intro e; exact ha j y q g e hg
    · rcases get k z hz with ⟨r, _⟩ | ⟨rfl, e2⟩
      · exact ha k z r g hg
      · exact absurd (e1.trans e2.symm) hjk
  · rcases get j y hy with ⟨q, _⟩ | ⟨rfl, _⟩
    · exact h.off j y q g hg
    · exact ho g hg

/-- A list that came out since, in a block of its own. -/
structure Frs (W : World) (lo Bk : Nat) (lv : Value) (cs : List Rw) (x : Rw) : Prop where
  own : SOwn W lo x.1 x.2
  off : ∀ g, x.1.ownBlock = some g → g ≠ Bk ∧ lv.ownBlock ≠ some g
  apt : ∀ (j : Nat) y, cs[j]? = some y → ∀ g, x.1.ownBlock = some g → y.1.ownBlock ≠ some g
  small : x.2.length ≤ 1048576

def KeepPost (W : World) (lo Bk : Nat) (lv : Value) (cs : List Rw) (x : Rw) (e : Ending) (W' : World) : Prop := (∃ u, e = .returned u) ∧ ∃ lv', Bkp W' lo Bk lv' (cs ++ [x]) ∧ Kp (fun g => g = Bk ∨ lv.ownBlock = some g) W W' ∧ (∀ g, lv'.ownBlock = some g → lv.ownBlock = some g ∨ W.heap.size ≤ g)

set_option maxHeartbeats 2000000 in
theorem keep_any {W : World} {lo Bk : Nat} {lv : Value} {cs : List Rw} {x : Rw} (h : Bkp W lo Bk lv cs) (hx : Frs W lo Bk lv cs x) (hm : cs.length ≤ 1048576) : Calls Try.prog 17 #[.pointer (some ⟨Bk, 0, none⟩), x.1] W (KeepPost W lo Bk lv cs x) := by
  obtain ⟨i1, hi', hz0', hz1', hz2'⟩ := info_parts Try.info_spans
  obtain ⟨xv, xl⟩ := x
  obtain ⟨a, c, hxs⟩ := hx.own.shape
  simp only at hxs
  subst hxs
  have HB : Hid (Bkp W lo Bk lv cs) := h
  have HX : Hid (Frs W lo Bk lv cs (.slice a xl.length c, xl)) := hx
  obtain ⟨la, lc, hlv⟩ := own_shape h.row
  subst hlv
  have b0 := h.book.c0
  have hbl := h.book.lt
  have hlo := h.lo
  clear h hx
  go_enter Try.func17, Try.ntmps17
  go_wp2_with (at_builtin; refine wpList_append_own_at _ rfl _ _ 28 rfl lo 22 i1 (.slice none 0 0) 1 24 Try.underlying28 hi' hz0' hz1' hz2' rfl (by decide) _ _ _ rfl (HB.out.row.alloc _) ⟨W.heap.size, 0, none⟩ 1 1 [.slice a xl.length c] rfl rfl ?c1 ?c2 ?c3 ?c4 ?c5 ?_)
  case c1 => exact one_val _ _ _
  case c2 => intro u hu; simp at hu; subst hu; rfl
  case c3 => unfold maxLen; omega
  case c4 => omega
  case c5 => simp; omega
  intro v' w5 hown5 hgrow5 _ hat5
  obtain ⟨g', cap', rfl⟩ := ownsRow_succ hown5
  have hg' : g' ≠ Bk ∧ (∀ (j : Nat) y, (cs ++ [(Value.slice a xl.length c, xl)])[j]? = some y → y.1.ownBlock ≠ some g') ∧ ((Value.slice la cs.length lc).ownBlock = some g' ∨ W.heap.size ≤ g') := by
    have hmem : ∀ (j : Nat) y, (cs ++ [(Value.slice a xl.length c, xl)])[j]? = some y → (∃ j, cs[j]? = some y) ∨ y = (Value.slice a xl.length c, xl) := fun j y hy => by
      rcases List.mem_append.mp (List.mem_of_getElem? hy) with q | q
      · exact .inl (List.getElem?_of_mem q)
      · simp at q; exact .inr q
    rcases hat5 with e | e
    · have e' : (Value.slice la cs.length lc).ownBlock = some g' := e.symm
      refine ⟨fun q => HB.out.ne (by rw [e', q]), fun j y hy q => ?_, .inl e'⟩
      rcases hmem j y hy with ⟨k, r⟩ | r
      · exact HB.out.cl.off k y r g' q (.inr e')
      · subst r; exact (HX.out.off g' q).2 e'
    · simp [Value.ownBlock] at e
      subst e
      refine ⟨by omega, fun j y hy q => ?_, .inr (by omega)⟩
      rcases hmem j y hy with ⟨k, r⟩ | r
      · have := ((HB.out.cl.own k y r).lt _ q).2; omega
      · subst r; have := (HX.out.own.lt _ q).2; omega
  have hC0 : Cl W lo (fun g => g = Bk ∨ (Value.slice la cs.length lc).ownBlock = some g) (cs ++ [(Value.slice a xl.length c, xl)]) := HB.out.cl.snoc HX.out.own (fun g hg hq => by
    rcases hq with hq | hq
    · exact (HX.out.off g hg).1 hq
    · exact (HX.out.off g hg).2 hq) HX.out.apt
  have hC5 := ((hC0.other (grown_alloc W (.cells #[.slice a xl.length c] 22) none) (fun g e => by cases e)).other hgrow5 (fun g e => .inl (.inr e))).other (grown_set w5 Bk 0 (.slice (some ⟨g', 0, none⟩) (cs.length + 1) cap')) (fun g e => .inl (.inl (by simpa using e.symm)))
  have hB5 : Book w5 Bk (.slice la cs.length lc) (.slice none 0 0) := (HB.out.book.grown (grown_alloc W (.cells #[.slice a xl.length c] 22) none) (by simp)).grown hgrow5 HB.out.ne
  have HP : Hid (Bkp (w5.setCell ⟨Bk, 0, none⟩ (.slice (some ⟨g', 0, none⟩) (cs.length + 1) cap')) lo Bk (.slice (some ⟨g', 0, none⟩) (cs.length + 1) cap') (cs ++ [(Value.slice a xl.length c, xl)])) := by
    refine ⟨hB5.set0 _, ?_, hC5.mono (fun j y hy g hg hq => ?_), fun y hy => ?_, HB.out.lo, fun e => hg'.1 (by simpa [Value.ownBlock] using e)⟩
    · rw [List.length_append, List.map_append]
      exact hown5.kept (grown_set w5 Bk 0 _) (.inr (fun e => hg'.1 (by simpa [Value.ownBlock] using e)))
    · rcases hq with hq | hq
      · exact hC5.off j y hy g hg (.inl hq)
      · simp [Value.ownBlock] at hq; subst hq; exact hg'.2.1 j y hy hg
    · rcases List.mem_append.mp hy with q | q
      · exact HB.out.small y q
      · simp at q; subst q; exact HX.out.small
  have HK : Hid (Kp (fun g => g = Bk ∨ (Value.slice la cs.length lc).ownBlock = some g) W (w5.setCell ⟨Bk, 0, none⟩ (.slice (some ⟨g', 0, none⟩) (cs.length + 1) cap'))) := (((Kp.refl _ W).grown (grown_alloc W (.cells #[.slice a xl.length c] 22) none) (fun g e => by cases e)).grown hgrow5 (fun g e => .inl (.inr e))).grown (grown_set w5 Bk 0 _) (fun g e => .inl (.inl (by simpa using e.symm)))
  have HG : Hid ((Value.slice la cs.length lc).ownBlock = some g' ∨ W.heap.size ≤ g') := hg'.2.2
  have c5 := hB5.c0
  have f5 := hB5.fz 0
  clear hown5 hgrow5 hat5 hg' hC0 hC5 hB5 b0
  go_wp2
  go_end0
  exact ⟨⟨_, rfl⟩, _, HP.out, HK.out, fun g hg => by simp [Value.ownBlock] at hg; subst hg; exact HG.out⟩

end Go.Proofs.Ytlagadpfnkidjac
