import Derived.Test.YtkkmoplijicmpabDoorTk2
import Derived.Test.YtkkmoplijicmpabDoorOw2
import Derived.Test.YtkkmoplijicmpabDoorSmH
import Derived.Test.YtkkmoplijicmpabDoorPq8
import Derived.Test.YtkkmoplijicmpabDoorAwake2
namespace Go.Proofs.YtkkmoplijicmpabDoor
open Go.RowKit
set_option linter.unusedVariables false
set_option linter.unusedSimpArgs false

/-- Whose each block is, where no two rows share one. -/
theorem own_tagsX (vs : List Value) (hd : ∀ (i j : Nat) v u g, vs[i]? = some v → vs[j]? = some u → v.ownBlock = some g → u.ownBlock = some g → i = j) :
    ∃ own : Nat → Nat, (∀ (j : Nat) v g, vs[j]? = some v → v.ownBlock = some g → own g = 10 + j) ∧ (∀ g, (∀ (j : Nat) v, vs[j]? = some v → v.ownBlock ≠ some g) → own g = 0) := by
  classical
  refine ⟨fun g => if h : ∃ j : Nat, ∃ v, vs[j]? = some v ∧ v.ownBlock = some g then 10 + Classical.choose h else 0, fun j v g hj hg => ?_, fun g hg => ?_⟩
  · have h : ∃ j : Nat, ∃ v, vs[j]? = some v ∧ v.ownBlock = some g := ⟨j, v, hj, hg⟩
    show (if h : ∃ j : Nat, ∃ v, vs[j]? = some v ∧ v.ownBlock = some g then 10 + Classical.choose h else 0) = 10 + j
    rw [dif_pos h]
    obtain ⟨u, hu, hug⟩ := Classical.choose_spec h
    rw [hd _ _ _ _ g hu hj hug hg]
  · show (if h : ∃ j : Nat, ∃ v, vs[j]? = some v ∧ v.ownBlock = some g then 10 + Classical.choose h else 0) = 0
    rw [dif_neg]
    rintro ⟨j, v, hj, hv⟩
    exact hg j v hj hv
theorem idx_nodup (vs : List Value) (h : (vs.filterMap Value.ownBlock).Nodup) : ∀ (i j : Nat) v u g, vs[i]? = some v → vs[j]? = some u → v.ownBlock = some g → u.ownBlock = some g → i = j := by
  induction vs with
  | nil => intro i j v u g hi; simp at hi
  | cons a r ih =>
    have hr : (r.filterMap Value.ownBlock).Nodup := by
      rw [List.filterMap_cons] at h
      split at h
      · exact h
      · exact (List.nodup_cons.mp h).2
    have hmem : ∀ (j : Nat) u g, r[j]? = some u → u.ownBlock = some g → g ∈ r.filterMap Value.ownBlock := fun j u g hj hu => List.mem_filterMap.mpr ⟨u, List.mem_of_getElem? hj, hu⟩
    have hno : ∀ g, a.ownBlock = some g → g ∉ r.filterMap Value.ownBlock := fun g hg hm => by
      rw [List.filterMap_cons, hg] at h
      exact (List.nodup_cons.mp h).1 hm
    intro i j v u g hi hj hv hu
    cases i with
    | zero =>
      cases j with
      | zero => rfl
      | succ j =>
        simp at hi hj; subst hi
        exact absurd (hmem j u g hj hu) (hno g hv)
    | succ i =>
      cases j with
      | zero =>
        simp at hi hj; subst hj
        exact absurd (hmem i v g hi hv) (hno g hu)
      | succ j =>
        simp at hi hj
        rw [ih hr i j v u g hi hj hv hu]
/-- Of a row and what it holds. -/
theorem pair_at {α : Type} (R : List (Value × α)) (d : α) (j : Nat) (v : Value) (h : (R.map Prod.fst)[j]? = some v) : ∃ p ∈ R, p.1 = v ∧ (R.map Prod.snd).getD j d = p.2 := by
  rw [List.getElem?_map] at h
  cases hp : R[j]? with
  | none => rw [hp] at h; cases h
  | some p =>
    rw [hp] at h
    simp only [Option.map_some, Option.some.injEq] at h
    refine ⟨p, List.mem_of_getElem? hp, h, ?_⟩
    rw [List.getD_eq_getElem?_getD, List.getElem?_map, hp]
    rfl

theorem XOwn.blk {w w' : World} {base : Nat} {v : Value} {xs : List Xr} (h : XOwn w base v xs) (hb : ∀ k, (v.ownBlock = some k ∨ ∃ x ∈ xs, x.val.ownBlock = some k) → w'.heap[k]? = w.heap[k]?) : XOwn w' base v xs :=
  ⟨C.own_blk2 h.row (fun g hg => hb g (.inl hg)), fun x hx => ⟨C.own_blk2 (h.data x hx).row (fun g hg => hb g (.inr ⟨x, hx, hg⟩)), (h.data x hx).bytes, (h.data x hx).small, (h.data x hx).tag⟩, h.apart, h.nodup⟩

/-- A segment in memory of its own, all of it in blocks from lo up to hi. -/
structure SgR (W : World) (lo hi : Nat) (s : Sg) (q : SvX) : Prop where
  ex : ∃ B1 B2, SOwn W lo s q.hv q.tv q.dv q.cv q.hx q.tx B1 B2 ∧ (∀ k, (q.tv.ownBlock = some k ∨ ∃ x ∈ q.tx, x.val.ownBlock = some k) → k < hi) ∧ B2 ≤ hi
theorem SgR.keep {W W' : World} {lo hi : Nat} {s : Sg} {q : SvX} (h : SgR W lo hi s q) (hb : ∀ g, lo ≤ g → g < hi → W'.heap[g]? = W.heap[g]?) : SgR W' lo hi s q := by
  obtain ⟨B1, B2, h0, h1, h2⟩ := h.ex
  have l1 := h0.le1
  have l2 := h0.le2
  refine ⟨B1, B2, ⟨h0.le1, h0.le2, h0.head.blk (fun k hk => hb k (h0.head.lt k hk).1 (by have := h0.headLt k hk; omega)), h0.headLt, h0.headEq, C.own_blk2 h0.data (fun k hk => hb k (by have := (h0.data.lt k hk).1; omega) (by have := h0.dataLt k hk; omega)), h0.dataLt, h0.dataB, h0.dataS, C.own_blk2 h0.clm (fun k hk => hb k (by have := (h0.clm.lt k hk).1; omega) (by have := h0.clmLt k hk; omega)), h0.clmLt, h0.clmS, h0.only, h0.tail.blk (fun k hk => hb k (by have := (h0.tail.lt k hk).1; omega) (h1 k hk)), h0.tailEq, h0.few⟩, h1, h2⟩
theorem SgR.sin {W : World} {lo hi : Nat} {s : Sg} {q : SvX} (h : SgR W lo hi s q) : SIn W s q.hv q.tv q.dv q.cv q.hx q.tx := by
  obtain ⟨B1, B2, h0, _⟩ := h.ex
  exact h0.sin
theorem SgR.le {W : World} {lo hi : Nat} {s : Sg} {q : SvX} (h : SgR W lo hi s q) : lo ≤ hi := by
  obtain ⟨B1, B2, h0, _, h2⟩ := h.ex
  have := h0.le1
  have := h0.le2
  omega
theorem SgR.one {W : World} {lo hi : Nat} {s : Sg} {q : SvX} (h : SgR W lo hi s q) : q.hv.oneCell' = true ∧ q.tv.oneCell' = true ∧ q.dv.oneCell' = true ∧ q.cv.oneCell' = true := by
  obtain ⟨B1, B2, h0, _⟩ := h.ex
  obtain ⟨a1, c1, e1⟩ := own_shape h0.head.row
  obtain ⟨a2, c2, e2⟩ := own_shape h0.tail.row
  obtain ⟨a3, c3, e3⟩ := own_shape h0.data
  obtain ⟨a4, c4, e4⟩ := own_shape h0.clm
  rw [e1, e2, e3, e4]
  exact ⟨rfl, rfl, rfl, rfl⟩
theorem sgr_parse {zs : List Int} {w w' : World} {e : Ending} (h : ParsePost zs w e w') : ∃ q : SvX, e = .returned (.tuple #[.agg (sC (prs zs).2 q.hv q.tv q.dv q.cv), .int .i64 (prs zs).1]) ∧ SgR w' w.heap.size w'.heap.size (prs zs).2 q ∧ Below w.heap.size w w' := by
  obtain ⟨hv, tv, dv, cv, hx, tx, B1, B2, he, hs, hb⟩ := h
  by_cases hB : B2 ≤ w'.heap.size
  · exact ⟨⟨hv, tv, dv, cv, hx, tx⟩, he, ⟨B1, B2, hs, fun k hk => (hs.tail.lt k hk).2, hB⟩, hb⟩
  · have l1 := hs.le1
    have l2 := hs.le2
    have hn : ∀ k, (tv.ownBlock = some k ∨ ∃ x ∈ tx, x.val.ownBlock = some k) → False := fun k hk => by have := hs.tail.lt k hk; omega
    by_cases hB1 : B1 ≤ w'.heap.size
    · refine ⟨⟨hv, tv, dv, cv, hx, tx⟩, he, ⟨B1, w'.heap.size, ⟨hs.le1, hB1, hs.head, hs.headLt, hs.headEq, hs.data, fun k hk => (hs.data.lt k hk).2, hs.dataB, hs.dataS, hs.clm, fun k hk => (hs.clm.lt k hk).2, hs.clmS, hs.only, hs.tail.base (by omega), hs.tailEq, hs.few⟩, fun k hk => (hn k hk).elim, Nat.le_refl _⟩, hb⟩
    · have hd : ∀ k, dv.ownBlock = some k → False := fun k hk => by have := hs.data.lt k hk; omega
      have hc : ∀ k, cv.ownBlock = some k → False := fun k hk => by have := hs.clm.lt k hk; omega
      refine ⟨⟨hv, tv, dv, cv, hx, tx⟩, he, ⟨w'.heap.size, w'.heap.size, ⟨hb.size, Nat.le_refl _, hs.head, fun k hk => (hs.head.lt k hk).2, hs.headEq, own_base hs.data (by omega), fun k hk => (hd k hk).elim, hs.dataB, hs.dataS, own_base hs.clm (by omega), fun k hk => (hc k hk).elim, hs.clmS, hs.only, hs.tail.base (by omega), hs.tailEq, hs.few⟩, fun k hk => (hn k hk).elim, Nat.le_refl _⟩, hb⟩

def rB (s : Sg) (q : SvX) : List (Value × List Int) := ((q.dv, s.data) :: q.hx.map (fun x => (x.val, x.data))) ++ q.tx.map (fun x => (x.val, x.data))
theorem rB_fst (s : Sg) (q : SvX) : (rB s q).map Prod.fst = tB q := by
  unfold rB tB
  rw [List.map_append, List.map_cons, List.map_map, List.map_map]
  rfl
theorem filt_map (xs : List Xr) : (xs.map Xr.val).filterMap Value.ownBlock = xs.filterMap fun x => x.val.ownBlock := by rw [List.filterMap_map]; rfl
theorem mem_filt {xs : List Xr} {g : Nat} (h : g ∈ (xs.map Xr.val).filterMap Value.ownBlock) : ∃ x ∈ xs, x.val.ownBlock = some g := by
  rw [filt_map] at h
  exact List.mem_filterMap.mp h
theorem SgR.bytes {W : World} {lo hi : Nat} {s : Sg} {q : SvX} (h : SgR W lo hi s q) : (∀ p ∈ rB s q, BOwn W 0 p.1 p.2 ∧ p.2.length ≤ 70000) ∧ ((tB q).filterMap Value.ownBlock).Nodup ∧ (∀ g ∈ (tB q).filterMap Value.ownBlock, lo ≤ g ∧ g < hi) := by
  obtain ⟨B1, B2, h0, h1, h2⟩ := h.ex
  have l1 := h0.le1
  have l2 := h0.le2
  have rh : ∀ g ∈ (q.hx.map Xr.val).filterMap Value.ownBlock, lo ≤ g ∧ g < B1 := fun g hg => by
    obtain ⟨x, hx, e⟩ := mem_filt hg
    exact ⟨(h0.head.lt g (.inr ⟨x, hx, e⟩)).1, h0.headLt g (.inr ⟨x, hx, e⟩)⟩
  have rt : ∀ g ∈ (q.tx.map Xr.val).filterMap Value.ownBlock, B2 ≤ g ∧ g < hi := fun g hg => by
    obtain ⟨x, hx, e⟩ := mem_filt hg
    exact ⟨(h0.tail.lt g (.inr ⟨x, hx, e⟩)).1, h1 g (.inr ⟨x, hx, e⟩)⟩
  have rd : ∀ g ∈ [q.dv].filterMap Value.ownBlock, B1 ≤ g ∧ g < B2 := fun g hg => by
    obtain ⟨v, hv, e⟩ := List.mem_filterMap.mp hg
    simp at hv; subst hv
    exact ⟨(h0.data.lt g e).1, h0.dataLt g e⟩
  have e : tB q = [q.dv] ++ (q.hx.map Xr.val ++ q.tx.map Xr.val) := by simp [tB]
  have nd : ([q.dv].filterMap Value.ownBlock).Nodup := by
    cases hq : q.dv.ownBlock <;> simp [List.filterMap_cons, hq]
  refine ⟨fun p hp => ?_, ?_, fun g hg => ?_⟩
  · rcases List.mem_append.mp hp with hp | hp
    · rcases List.mem_cons.mp hp with rfl | hp
      · exact ⟨own_base h0.data (Nat.zero_le _), h0.dataS⟩
      · obtain ⟨x, hx, rfl⟩ := List.mem_map.mp hp
        exact ⟨own_base (h0.head.data x hx).row (Nat.zero_le _), (h0.head.data x hx).small⟩
    · obtain ⟨x, hx, rfl⟩ := List.mem_map.mp hp
      exact ⟨own_base (h0.tail.data x hx).row (Nat.zero_le _), (h0.tail.data x hx).small⟩
  · rw [e, List.filterMap_append, List.filterMap_append]
    refine List.nodup_append.mpr ⟨nd, List.nodup_append.mpr ⟨by rw [filt_map]; exact h0.head.nodup, by rw [filt_map]; exact h0.tail.nodup, fun a ha b hb e => ?_⟩, fun a ha b hb e => ?_⟩
    · have := rh a ha; have := rt b hb; omega
    · have := rd a ha
      rcases List.mem_append.mp hb with hb | hb
      · have := rh b hb; omega
      · have := rt b hb; omega
  · rw [e, List.filterMap_append, List.filterMap_append] at hg
    rcases List.mem_append.mp hg with hg | hg
    · have := rd g hg; omega
    · rcases List.mem_append.mp hg with hg | hg
      · have := rh g hg; omega
      · have := rt g hg; omega
theorem SgR.spans {W : World} {lo hi : Nat} {s : Sg} {q : SvX} (h : SgR W lo hi s q) : C.SOwn W 0 q.cv s.clm ∧ s.clm.length ≤ 1000 ∧ ∀ g, q.cv.ownBlock = some g → lo ≤ g ∧ g < hi := by
  obtain ⟨B1, B2, h0, h1, h2⟩ := h.ex
  have l1 := h0.le1
  have l2 := h0.le2
  exact ⟨own_base h0.clm (Nat.zero_le _), h0.clmS, fun g hg => by have := (h0.clm.lt g hg).1; have := h0.clmLt g hg; omega⟩
theorem SgR.exts {W : World} {lo hi : Nat} {s : Sg} {q : SvX} (h : SgR W lo hi s q) : (EOwn W 0 q.hv q.hx ∧ EOwn W 0 q.tv q.tx ∧ q.hx.length ≤ 15 ∧ q.tx.length ≤ 15) ∧ ((tE q).filterMap Value.ownBlock).Nodup ∧ (∀ g ∈ (tE q).filterMap Value.ownBlock, lo ≤ g ∧ g < hi) := by
  obtain ⟨B1, B2, h0, h1, h2⟩ := h.ex
  have l1 := h0.le1
  have l2 := h0.le2
  have rh : ∀ g, q.hv.ownBlock = some g → lo ≤ g ∧ g < B1 := fun g e => ⟨(h0.head.lt g (.inl e)).1, h0.headLt g (.inl e)⟩
  have rt : ∀ g, q.tv.ownBlock = some g → B2 ≤ g ∧ g < hi := fun g e => ⟨(h0.tail.lt g (.inl e)).1, h1 g (.inl e)⟩
  refine ⟨⟨own_base h0.head.row (Nat.zero_le _), own_base h0.tail.row (Nat.zero_le _), h0.few.1, h0.few.2⟩, ?_, fun g hg => ?_⟩
  · unfold tE
    cases e1 : q.hv.ownBlock with
    | none => cases e2 : q.tv.ownBlock <;> simp [List.filterMap_cons, e1, e2]
    | some a =>
      cases e2 : q.tv.ownBlock with
      | none => simp [List.filterMap_cons, e1, e2]
      | some b =>
        have := rh a e1
        have := rt b e2
        simp [List.filterMap_cons, e1, e2]
        omega
  · obtain ⟨v, hv, e⟩ := List.mem_filterMap.mp hg
    unfold tE at hv
    simp at hv
    rcases hv with rfl | rfl
    · have := rh g e; omega
    · have := rt g e; omega
theorem SgR.xcell {W : World} {lo hi pr : Nat} {s : Sg} {q : SvX} (h : SgR W lo hi s q) (hpr : hi ≤ pr ∨ pr < lo) : XCell W pr q.hv q.hx ∧ XCell W pr q.tv q.tx := by
  obtain ⟨B1, B2, h0, h1, h2⟩ := h.ex
  have l1 := h0.le1
  have l2 := h0.le2
  have key : ∀ {base : Nat} {v : Value} {xs : List Xr}, XOwn W base v xs → xs.length ≤ 15 → (∀ g, v.ownBlock = some g → lo ≤ g ∧ g < hi) → XCell W pr v xs := fun {base v xs} hx h15 hr => by
    rcases Nat.eq_zero_or_pos xs.length with h0 | h0
    · obtain ⟨a, c, rfl⟩ := own_shape hx.row
      exact ⟨h15, a, c, rfl, .inl (List.eq_nil_of_length_eq_zero h0)⟩
    · obtain ⟨g, cap, hv⟩ := own_nz hx.row h0
      have hrow := hx.row
      rw [hv] at hrow hr ⊢
      refine ⟨h15, _, cap, rfl, .inr ⟨g, rfl, fun e => by have := hr g rfl; omega, fun j x hj => ?_⟩⟩
      have hi : j < xs.length := (List.getElem?_eq_some_iff.mp hj).1
      exact (World.ownsRow.cellAt hrow _ (by omega)).trans (xc_get xs j x hj).2
  exact ⟨key h0.head h0.few.1 (fun g e => ⟨(h0.head.lt g (.inl e)).1, by have := h0.headLt g (.inl e); omega⟩), key h0.tail h0.few.2 (fun g e => ⟨by have := (h0.tail.lt g (.inl e)).1; omega, h1 g (.inl e)⟩)⟩
theorem four_nodup {A B C' D : List Nat} {l1 u1 l2 u2 l3 u3 l4 u4 : Nat} (nA : A.Nodup) (nB : B.Nodup) (nC : C'.Nodup) (nD : D.Nodup) (rA : ∀ g ∈ A, l1 ≤ g ∧ g < u1) (rB : ∀ g ∈ B, l2 ≤ g ∧ g < u2) (rC : ∀ g ∈ C', l3 ≤ g ∧ g < u3) (rD : ∀ g ∈ D, l4 ≤ g ∧ g < u4) (c1 : u1 ≤ l2) (c2 : u2 ≤ l3) (c3 : u3 ≤ l4) (k2 : l2 ≤ u2) (k3 : l3 ≤ u3) : (A ++ (B ++ (C' ++ D))).Nodup := by
  refine List.nodup_append.mpr ⟨nA, List.nodup_append.mpr ⟨nB, List.nodup_append.mpr ⟨nC, nD, fun a ha b hb e => ?_⟩, fun a ha b hb e => ?_⟩, fun a ha b hb e => ?_⟩
  · have := rC a ha; have := rD b hb; omega
  · have := rB a ha
    rcases List.mem_append.mp hb with hb | hb
    · have := rC b hb; omega
    · have := rD b hb; omega
  · have := rA a ha
    rcases List.mem_append.mp hb with hb | hb
    · have := rB b hb; omega
    · rcases List.mem_append.mp hb with hb | hb
      · have := rC b hb; omega
      · have := rD b hb; omega

end Go.Proofs.YtkkmoplijicmpabDoor

namespace Go.Proofs.YtkkmoplijicmpabDoor
open Go.RowKit
set_option linter.unusedVariables false
set_option linter.unusedSimpArgs false

theorem nam_own {w : World} {n c : Nat} {a : Option Addr} {e : TypeId} {xs : List Value} (o : Nat → Nat) (h : w.ownsRow 0 e 1 (.slice a n c) n xs) (h0 : ∀ g, a = some ⟨g, 0, none⟩ → o g = 0) : C.Nam o w a xs := by
  obtain ⟨k1, ⟨e1, e0⟩ | ⟨g, cap, cur, e1, _⟩⟩ := id h
  · left; exact List.eq_nil_of_length_eq_zero (by omega)
  · simp only [Value.slice.injEq] at e1
    obtain ⟨rfl, _, rfl⟩ := e1
    refine .inr ⟨g, 0, rfl, h0 g rfl, fun i v hi => ?_⟩
    have hil := (List.getElem?_eq_some_iff.mp hi).1
    rw [Nat.zero_add]
    exact (World.ownsRow.cellAt h i (by omega)).trans hi
/-- An address of a row of the call's own begins its block. -/
theorem own_zero {w : World} {n c b : Nat} {a : Option Addr} {e : TypeId} {xs : List Value} (h : w.ownsRow b e 1 (.slice a n c) n xs) {gl off : Nat} (ha : a = some ⟨gl, off, none⟩) : (Value.slice a n c).ownBlock = some gl := by
  rw [ha]; rfl

/-- What Take has gathered of four segments, each in memory of its own: what Owned wants. -/
theorem rws_segs {w0 W : World} {pr : Nat} {bv sv ev : Value} {q1 q2 q3 q4 : SvX} {s1 s2 s3 s4 : Sg} {l1 u1 l2 u2 l3 u3 l4 u4 : Nat}
    (hT : TkX w0 W pr ([q1, q2, q3, q4].flatMap tB) ([q1, q2, q3, q4].map SvX.cv) ([q1, q2, q3, q4].flatMap tE) bv sv ev)
    (h1 : SgR W l1 u1 s1 q1) (h2 : SgR W l2 u2 s2 q2) (h3 : SgR W l3 u3 s3 q3) (h4 : SgR W l4 u4 s4 q4) (c1 : u1 ≤ l2) (c2 : u2 ≤ l3) (c3 : u3 ≤ l4) :
    ∃ oB oS oE ab asp ae cb cS ce Cb Cs Ce, Rws W pr oB oS oE ab asp ae cb cS ce ([q1, q2, q3, q4].flatMap tB) ([q1, q2, q3, q4].map SvX.cv) ([q1, q2, q3, q4].flatMap tE) Cb Cs Ce ∧ ∀ g, g < l1 → oB g = 0 ∧ oS g = 0 ∧ oE g = 0 := by
  have k1 := h1.le
  have k2 := h2.le
  have k3 := h3.le
  have k4 := h4.le
  obtain ⟨b1, nb1, rb1⟩ := h1.bytes
  obtain ⟨b2, nb2, rb2⟩ := h2.bytes
  obtain ⟨b3, nb3, rb3⟩ := h3.bytes
  obtain ⟨b4, nb4, rb4⟩ := h4.bytes
  obtain ⟨e1, ne1, re1⟩ := h1.exts
  obtain ⟨e2, ne2, re2⟩ := h2.exts
  obtain ⟨e3, ne3, re3⟩ := h3.exts
  obtain ⟨e4, ne4, re4⟩ := h4.exts
  obtain ⟨p1, np1, rp1⟩ := h1.spans
  obtain ⟨p2, np2, rp2⟩ := h2.spans
  obtain ⟨p3, np3, rp3⟩ := h3.spans
  obtain ⟨p4, np4, rp4⟩ := h4.spans
  obtain ⟨RB, hRB⟩ : ∃ R, R = rB s1 q1 ++ (rB s2 q2 ++ (rB s3 q3 ++ rB s4 q4)) := ⟨_, rfl⟩
  obtain ⟨RE, hRE⟩ : ∃ R : List (Value × List Xr), R = [(q1.hv, q1.hx), (q1.tv, q1.tx), (q2.hv, q2.hx), (q2.tv, q2.tx), (q3.hv, q3.hx), (q3.tv, q3.tx), (q4.hv, q4.hx), (q4.tv, q4.tx)] := ⟨_, rfl⟩
  obtain ⟨RS, hRS⟩ : ∃ R : List (Value × List C.Sp), R = [(q1.cv, s1.clm), (q2.cv, s2.clm), (q3.cv, s3.clm), (q4.cv, s4.clm)] := ⟨_, rfl⟩
  have fB : [q1, q2, q3, q4].flatMap tB = RB.map Prod.fst := by rw [hRB, List.map_append, List.map_append, List.map_append, rB_fst, rB_fst, rB_fst, rB_fst]; simp
  have fE : [q1, q2, q3, q4].flatMap tE = RE.map Prod.fst := by rw [hRE]; simp [tE]
  have fS : [q1, q2, q3, q4].map SvX.cv = RS.map Prod.fst := by rw [hRS]; rfl
  have eB : (RB.map Prod.fst).filterMap Value.ownBlock = (tB q1).filterMap Value.ownBlock ++ ((tB q2).filterMap Value.ownBlock ++ ((tB q3).filterMap Value.ownBlock ++ (tB q4).filterMap Value.ownBlock)) := by
    rw [hRB, List.map_append, List.map_append, List.map_append, rB_fst, rB_fst, rB_fst, rB_fst, List.filterMap_append, List.filterMap_append, List.filterMap_append]
  have eE : (RE.map Prod.fst).filterMap Value.ownBlock = (tE q1).filterMap Value.ownBlock ++ ((tE q2).filterMap Value.ownBlock ++ ((tE q3).filterMap Value.ownBlock ++ (tE q4).filterMap Value.ownBlock)) := by
    rw [← List.filterMap_append, ← List.filterMap_append, ← List.filterMap_append, hRE]; rfl
  have eS : (RS.map Prod.fst).filterMap Value.ownBlock = [q1.cv].filterMap Value.ownBlock ++ ([q2.cv].filterMap Value.ownBlock ++ ([q3.cv].filterMap Value.ownBlock ++ [q4.cv].filterMap Value.ownBlock)) := by
    rw [← List.filterMap_append, ← List.filterMap_append, ← List.filterMap_append, hRS]; rfl
  have one : ∀ v : Value, ([v].filterMap Value.ownBlock).Nodup := fun v => by cases hq : v.ownBlock <;> simp [List.filterMap_cons, hq]
  have rone : ∀ {v : Value} {l u : Nat}, (∀ g, v.ownBlock = some g → l ≤ g ∧ g < u) → ∀ g ∈ [v].filterMap Value.ownBlock, l ≤ g ∧ g < u := fun {v l u} h g hg => by
    obtain ⟨x, hx, e⟩ := List.mem_filterMap.mp hg
    simp at hx; subst hx
    exact h g e
  have dB := idx_nodup (RB.map Prod.fst) (by rw [eB]; exact four_nodup nb1 nb2 nb3 nb4 rb1 rb2 rb3 rb4 c1 c2 c3 k2 k3)
  have dE := idx_nodup (RE.map Prod.fst) (by rw [eE]; exact four_nodup ne1 ne2 ne3 ne4 re1 re2 re3 re4 c1 c2 c3 k2 k3)
  have dS := idx_nodup (RS.map Prod.fst) (by rw [eS]; exact four_nodup (one _) (one _) (one _) (one _) (rone rp1) (rone rp2) (rone rp3) (rone rp4) c1 c2 c3 k2 k3)
  obtain ⟨oB, oB1, oB2⟩ := own_tagsX _ dB
  obtain ⟨oS, oS1, oS2⟩ := own_tagsX _ dS
  obtain ⟨oE, oE1, oE2⟩ := own_tagsX _ dE
  have ownB : ∀ p ∈ RB, BOwn W 0 p.1 p.2 ∧ p.2.length ≤ 70000 := fun p hp => by
    rw [hRB] at hp
    rcases List.mem_append.mp hp with hp | hp
    · exact b1 p hp
    · rcases List.mem_append.mp hp with hp | hp
      · exact b2 p hp
      · rcases List.mem_append.mp hp with hp | hp
        · exact b3 p hp
        · exact b4 p hp
  have ownE : ∀ p ∈ RE, EOwn W 0 p.1 p.2 ∧ p.2.length ≤ 15 := fun p hp => by
    rw [hRE] at hp
    simp only [List.mem_cons, List.not_mem_nil, or_false] at hp
    rcases hp with rfl | rfl | rfl | rfl | rfl | rfl | rfl | rfl
    · exact ⟨e1.1, e1.2.2.1⟩
    · exact ⟨e1.2.1, e1.2.2.2⟩
    · exact ⟨e2.1, e2.2.2.1⟩
    · exact ⟨e2.2.1, e2.2.2.2⟩
    · exact ⟨e3.1, e3.2.2.1⟩
    · exact ⟨e3.2.1, e3.2.2.2⟩
    · exact ⟨e4.1, e4.2.2.1⟩
    · exact ⟨e4.2.1, e4.2.2.2⟩
  have ownS : ∀ p ∈ RS, C.SOwn W 0 p.1 p.2 ∧ p.2.length ≤ 1000 := fun p hp => by
    rw [hRS] at hp
    simp only [List.mem_cons, List.not_mem_nil, or_false] at hp
    rcases hp with rfl | rfl | rfl | rfl
    · exact ⟨p1, np1⟩
    · exact ⟨p2, np2⟩
    · exact ⟨p3, np3⟩
    · exact ⟨p4, np4⟩
  have memB : ∀ (j : Nat) v, (RB.map Prod.fst)[j]? = some v → BOwn W 0 v ((RB.map Prod.snd).getD j []) ∧ ((RB.map Prod.snd).getD j []).length ≤ 70000 := fun j v hj => by
    obtain ⟨p, hp, e, e'⟩ := pair_at RB [] j v hj
    rw [e', ← e]; exact ownB p hp
  have memE : ∀ (j : Nat) v, (RE.map Prod.fst)[j]? = some v → EOwn W 0 v ((RE.map Prod.snd).getD j []) ∧ ((RE.map Prod.snd).getD j []).length ≤ 15 := fun j v hj => by
    obtain ⟨p, hp, e, e'⟩ := pair_at RE [] j v hj
    rw [e', ← e]; exact ownE p hp
  have memS : ∀ (j : Nat) v, (RS.map Prod.fst)[j]? = some v → C.SOwn W 0 v ((RS.map Prod.snd).getD j []) ∧ ((RS.map Prod.snd).getD j []).length ≤ 1000 := fun j v hj => by
    obtain ⟨p, hp, e, e'⟩ := pair_at RS [] j v hj
    rw [e', ← e]; exact ownS p hp
  have lenB : ∀ j, ((RB.map Prod.snd).getD j []).length ≤ 1048600 := fun j => by
    cases hj : (RB.map Prod.fst)[j]? with
    | some v => have := (memB j v hj).2; omega
    | none =>
      have : (RB.map Prod.snd)[j]? = none := by rw [List.getElem?_map] at hj ⊢; cases h : RB[j]? with
        | none => rfl
        | some p => rw [h] at hj; cases hj
      rw [List.getD_eq_getElem?_getD, this]; simp
  have lenE : ∀ j, ((RE.map Prod.snd).getD j []).length ≤ 1048600 := fun j => by
    cases hj : (RE.map Prod.fst)[j]? with
    | some v => have := (memE j v hj).2; omega
    | none =>
      have : (RE.map Prod.snd)[j]? = none := by rw [List.getElem?_map] at hj ⊢; cases h : RE[j]? with
        | none => rfl
        | some p => rw [h] at hj; cases hj
      rw [List.getD_eq_getElem?_getD, this]; simp
  have lenS : ∀ j, ((RS.map Prod.snd).getD j []).length ≤ 1048600 := fun j => by
    cases hj : (RS.map Prod.fst)[j]? with
    | some v => have := (memS j v hj).2; omega
    | none =>
      have : (RS.map Prod.snd)[j]? = none := by rw [List.getElem?_map] at hj ⊢; cases h : RS[j]? with
        | none => rfl
        | some p => rw [h] at hj; cases hj
      rw [List.getD_eq_getElem?_getD, this]; simp
  have zB : ∀ {b e z n : Nat} {v : Value} {xs : List Value} {g : Nat}, W.ownsRow b e z v n xs → e ≠ 5 → v.ownBlock = some g → oB g = 0 := fun {b e z n v xs g} h he hg => oB2 g fun j u hj hu => own_tyX (memB j u hj).1 h (fun e' => he e'.symm) hu hg
  have zS : ∀ {b e z n : Nat} {v : Value} {xs : List Value} {g : Nat}, W.ownsRow b e z v n xs → e ≠ 37 → v.ownBlock = some g → oS g = 0 := fun {b e z n v xs g} h he hg => oS2 g fun j u hj hu => own_tyX (memS j u hj).1 h (fun e' => he e'.symm) hu hg
  have zE : ∀ {b e z n : Nat} {v : Value} {xs : List Value} {g : Nat}, W.ownsRow b e z v n xs → e ≠ 81 → v.ownBlock = some g → oE g = 0 := fun {b e z n v xs g} h he hg => oE2 g fun j u hj hu => own_tyX (memE j u hj).1 h (fun e' => he e'.symm) hu hg
  rw [fB, fS, fE] at hT ⊢
  obtain ⟨ab, cb, hbv⟩ := own_shape hT.rb
  obtain ⟨asp, cS, hsv⟩ := own_shape hT.rs
  obtain ⟨ae, ce, hev⟩ := own_shape hT.re
  subst hbv hsv hev
  have inB : ∀ g, oB g ≠ 0 → ∃ (j : Nat) (v : Value), (RB.map Prod.fst)[j]? = some v ∧ v.ownBlock = some g := fun g h => Classical.byContradiction fun hn => h (oB2 g fun j v hj hv => hn ⟨j, v, hj, hv⟩)
  have inS : ∀ g, oS g ≠ 0 → ∃ (j : Nat) (v : Value), (RS.map Prod.fst)[j]? = some v ∧ v.ownBlock = some g := fun g h => Classical.byContradiction fun hn => h (oS2 g fun j v hj hv => hn ⟨j, v, hj, hv⟩)
  have inE : ∀ g, oE g ≠ 0 → ∃ (j : Nat) (v : Value), (RE.map Prod.fst)[j]? = some v ∧ v.ownBlock = some g := fun g h => Classical.byContradiction fun hn => h (oE2 g fun j v hj hv => hn ⟨j, v, hj, hv⟩)
  have lE : RE.length = 8 := by rw [hRE]; rfl
  have lS : RS.length = 4 := by rw [hRS]; rfl
  have lB : RB.length ≤ 124 := by
    rw [hRB]
    simp only [List.length_append, rB, List.length_cons, List.length_map]
    have := e1.2.2; have := e2.2.2; have := e3.2.2; have := e4.2.2
    omega
  refine ⟨oB, oS, oE, ab, asp, ae, cb, cS, ce, fun j => (RB.map Prod.snd).getD j [], fun j => (RS.map Prod.snd).getD j [], fun j => (RE.map Prod.snd).getD j [],
    ⟨hT.box, ⟨oB2 pr fun j v hj => own_hpX (memB j v hj).1 hT.box (by decide), oS2 pr fun j v hj => own_hpX (memS j v hj).1 hT.box (by decide)⟩,
      ⟨fun j v _ hv => (memB j v hv).1, fun j v g _ hv hg => oB1 j v g hv hg⟩, ⟨fun j v _ hv => (memS j v hv).1, fun j v g _ hv hg => oS1 j v g hv hg⟩, ⟨fun j v _ hv => (memE j v hv).1, fun j v g _ hv hg => oE1 j v g hv hg⟩,
      nam_own _ hT.rb (fun g hg => zB hT.rb (by decide) (own_zero hT.rb hg)), nam_own _ hT.rs (fun g hg => zS hT.rs (by decide) (own_zero hT.rs hg)), nam_own _ hT.re (fun g hg => zE hT.re (by decide) (own_zero hT.re hg)),
      fun g _ h => ?_, fun g _ h => ?_, fun gl off e => zB hT.rs (by decide) (own_zero hT.rs e), fun gl off e => ⟨zB hT.re (by decide) (own_zero hT.re e), zS hT.re (by decide) (own_zero hT.re e)⟩,
      ⟨by rw [List.length_map]; omega, by rw [List.length_map]; omega, by rw [List.length_map]; omega⟩, ⟨lenB, lenS, lenE⟩⟩, fun g hg => ⟨?_, ?_, ?_⟩⟩
  · obtain ⟨j, v, hj, hv⟩ := inS g h
    exact zB (memS j v hj).1 (by decide) hv
  · obtain ⟨j, v, hj, hv⟩ := inE g h
    exact ⟨zB (memE j v hj).1 (by decide) hv, zS (memE j v hj).1 (by decide) hv⟩
  · refine oB2 g fun j v hj hv => ?_
    have hm : g ∈ (RB.map Prod.fst).filterMap Value.ownBlock := List.mem_filterMap.mpr ⟨v, List.mem_of_getElem? hj, hv⟩
    rw [eB] at hm
    rcases List.mem_append.mp hm with hm | hm
    · have := rb1 g hm; omega
    · rcases List.mem_append.mp hm with hm | hm
      · have := rb2 g hm; omega
      · rcases List.mem_append.mp hm with hm | hm
        · have := rb3 g hm; omega
        · have := rb4 g hm; omega
  · refine oS2 g fun j v hj hv => ?_
    have hm : g ∈ (RS.map Prod.fst).filterMap Value.ownBlock := List.mem_filterMap.mpr ⟨v, List.mem_of_getElem? hj, hv⟩
    rw [eS] at hm
    rcases List.mem_append.mp hm with hm | hm
    · have := rone rp1 g hm; omega
    · rcases List.mem_append.mp hm with hm | hm
      · have := rone rp2 g hm; omega
      · rcases List.mem_append.mp hm with hm | hm
        · have := rone rp3 g hm; omega
        · have := rone rp4 g hm; omega
  · refine oE2 g fun j v hj hv => ?_
    have hm : g ∈ (RE.map Prod.fst).filterMap Value.ownBlock := List.mem_filterMap.mpr ⟨v, List.mem_of_getElem? hj, hv⟩
    rw [eE] at hm
    rcases List.mem_append.mp hm with hm | hm
    · have := re1 g hm; omega
    · rcases List.mem_append.mp hm with hm | hm
      · have := re2 g hm; omega
      · rcases List.mem_append.mp hm with hm | hm
        · have := re3 g hm; omega
        · have := re4 g hm; omega

end Go.Proofs.YtkkmoplijicmpabDoor

namespace Go.Proofs.YtkkmoplijicmpabDoor
open Go.RowKit
set_option linter.unusedVariables false
set_option linter.unusedSimpArgs false

/-- Nothing but the block gd has changed. -/
structure Oz (gd : Nat) (V V' : World) : Prop where
  os : V'.os = V.os
  tape : V'.tape = V.tape
  output : V'.output = V.output
  size : V.heap.size ≤ V'.heap.size
  block : ∀ g, g < V.heap.size → g ≠ gd → V'.heap[g]? = V.heap[g]?
theorem Oz.refl (gd : Nat) (V : World) : Oz gd V V := ⟨rfl, rfl, rfl, Nat.le_refl _, fun _ _ _ => rfl⟩
theorem Oz.trans {gd : Nat} {a b c : World} (h : Oz gd a b) (k : Oz gd b c) : Oz gd a c :=
  ⟨k.os.trans h.os, k.tape.trans h.tape, k.output.trans h.output, Nat.le_trans h.size k.size, fun g hg hn => (k.block g (Nat.lt_of_lt_of_le hg h.size) hn).trans (h.block g hg hn)⟩
theorem Oz.of {gd : Nat} {V V' : World} (h : Below V.heap.size V V') : Oz gd V V' := ⟨h.os, h.tape, h.output, h.size, fun g hg _ => h.block g hg⟩
theorem Oz.set {gd i : Nat} {V : World} {u : Value} : Oz gd V (V.setCell ⟨gd, i, none⟩ u) := ⟨rfl, rfl, rfl, by simp, fun g _ hn => heap_setCell_other _ _ _ _ (by simpa using hn)⟩
theorem Oz.low {gd : Nat} {w V V' : World} (h : Below w.heap.size w V) (o : Oz gd V V') (hg : w.heap.size ≤ gd) : Below w.heap.size w V' :=
  ⟨o.os.trans h.os, o.tape.trans h.tape, o.output.trans h.output, Nat.le_trans h.size o.size, fun g hl => (o.block g (Nat.lt_of_lt_of_le hl h.size) (by omega)).trans (h.block g hl)⟩

/-- A variable of a segment, in the block A. -/
structure Vr (gd : Nat) (V : World) (A lo hi : Nat) (s : Sg) (q : SvX) : Prop where
  heap : V.heap[A]? = some (.cells (sC s q.hv q.tv q.dv q.cv) 28 (0, 0))
  sgr : SgR V lo hi s q
  top : hi ≤ V.heap.size
  ne : A ≠ gd
  out : gd < lo ∨ hi ≤ gd
theorem Vr.keep {gd : Nat} {V V' : World} {A lo hi : Nat} {s : Sg} {q : SvX} (h : Vr gd V A lo hi s q) (o : Oz gd V V') : Vr gd V' A lo hi s q :=
  ⟨(o.block A (Array.getElem?_eq_some_iff.1 h.heap).1 h.ne).trans h.heap, h.sgr.keep (fun g h1 h2 => o.block g (Nat.lt_of_lt_of_le h2 h.top) (by have := h.out; omega)), Nat.le_trans h.top o.size, h.ne, h.out⟩
theorem vr_new {V V1 : World} {s : Sg} {q : SvX} (h : SgR V1 V.heap.size V1.heap.size s q) (hb : Below V.heap.size V V1) :
    StorQ Tryd.prog 28 (V1.alloc zQ) (.pointer (some ⟨V1.heap.size, 0, none⟩)) (.agg (sC s q.hv q.tv q.dv q.cv)) ∧ Below V.heap.size V ((V1.alloc zQ).setRow V1.heap.size (sC s q.hv q.tv q.dv q.cv)) ∧ ((V1.alloc zQ).setRow V1.heap.size (sC s q.hv q.tv q.dv q.cv)).heap.size = V1.heap.size + 1 ∧
    (∀ gd, gd < V.heap.size ∨ V1.heap.size + 1 ≤ gd → Vr gd ((V1.alloc zQ).setRow V1.heap.size (sC s q.hv q.tv q.dv q.cv)) V1.heap.size V.heap.size V1.heap.size s q) := by
  have hn : (V1.alloc zQ).heap[V1.heap.size]? = some zQ := heap_alloc_new' _ _
  obtain ⟨o1, o2, o3, o4⟩ := h.one
  have hi : ∀ k x, (Value.int k x).oneCell' = true := fun _ _ => rfl
  have hsz : ((V1.alloc zQ).setRow V1.heap.size (sC s q.hv q.tv q.dv q.cv)).heap.size = V1.heap.size + 1 := by simp [World.setRow]
  refine ⟨⟨V1.heap.size, _, _, _, rfl, rfl, hn, rfl, size_sgq, by simp [o1, o2, o3, o4, hi]⟩, ?_, hsz, fun gd hg => ⟨setRow_heap _ _ _ _ _ _ hn, h.keep (fun g h1 h2 => ?_), by omega, by have := hb.size; omega, by omega⟩⟩
  · exact (hb.alloc hb.size _).grown (grown_setRow _ _ _) (by have := hb.size; simp; omega) (fun k hk => by simp at hk; have := hb.size; omega)
  · exact ((grown_setRow (V1.alloc zQ) V1.heap.size _).block g (by simp; omega) (by simp; omega)).trans (Below.heap_alloc _ _ g h2)
theorem same_vr {gd : Nat} {V : World} {A A' lo hi lo' hi' : Nat} {s : Sg} {q q' : SvX} (h : Vr gd V A lo hi s q) (h' : Vr gd V A' lo' hi' s q') :
    Calls Tryd.prog 19 #[.agg (sC s q.hv q.tv q.dv q.cv), .agg (sC s q'.hv q'.tv q'.dv q'.cv)] V fun e w' => e = .returned (.bool true) ∧ Below V.heap.size V w' := by
  refine (same_gen s s q.hv q.tv q.dv q.cv q'.hv q'.tv q'.dv q'.cv q.hx q.tx q'.hx q'.tx V h.sgr.sin h'.sgr.sin).mono ?_
  rintro e w' ⟨b, rfl, hb, hl⟩
  rw [hb rfl]
  exact ⟨rfl, hl⟩
def PaP (e0 : Int) (s0 : Sg) (w : World) (e : Ending) (w' : World) : Prop := ∃ q : SvX, e = .returned (.tuple #[.agg (sC s0 q.hv q.tv q.dv q.cv), .int .i64 e0]) ∧ SgR w' w.heap.size w'.heap.size s0 q ∧ Below w.heap.size w w'
theorem prog_parse {v : Value} {zs : List Int} {w : World} {e0 : Int} {s0 : Sg} (h : BIn w v zs) (hT : Tab w) (hz : prs zs = (e0, s0)) : Calls Tryd.prog 17 #[v] w (PaP e0 s0 w) := by
  obtain ⟨a, c, rfl, h1, h2, h3, h4⟩ := h.shape
  refine (parse_any a zs zs.length c w h.bytes rfl h3 h4 h1 h2 hT).mono fun e w' hp => ?_
  have := sgr_parse hp
  rw [hz] at this
  exact this
theorem ref_parse {v : Value} {zs : List Int} {w : World} {e0 : Int} {s0 : Sg} (h : BIn w v zs) (hz : prs zs = (e0, s0)) : Calls Tryd.prog 15 #[v] w (PaP e0 s0 w) := by
  obtain ⟨a, c, rfl, h1, h2, h3, h4⟩ := h.shape
  refine (rqParse_any a zs zs.length c w h.bytes rfl h3 h4 h1 h2).mono fun e w' hp => ?_
  have := sgr_parse hp
  rw [hz] at this
  exact this
def xq (c : Int) : Int := bits .xor .u8 c 1
theorem xq_all : ∀ n : Fin 256, 0 ≤ xq (n.val : Int) ∧ xq (n.val : Int) ≤ 255 := by decide +kernel
theorem xq_byte {c : Int} (h : 0 ≤ c ∧ c ≤ 255) : 0 ≤ xq c ∧ xq c ≤ 255 := by
  have := xq_all ⟨c.toNat, by omega⟩
  simp only at this
  rwa [show ((c.toNat : Nat) : Int) = c by omega] at this
theorem mk2_setX (zs : List Int) (k : Nat) (c : Int) (hk : k < zs.length) : (mk2 zs).set k c = mk2 (zs.set k c) := by
  unfold mk2
  rw [List.set_append_left _ _ hk]

abbrev big4 (s1 s2 s3 s4 : Sg) (q1 q2 q3 q4 : SvX) : Array Value := #[.int .i64 s1.typ, .int .i64 s1.org, .int .i64 s1.num, q1.hv, q1.tv, .int .i64 s1.srv, .int .i64 s1.off, q1.dv, .int .i64 s1.chk, .int .i64 s1.rep, .int .i64 s1.upp, .int .i64 s1.low, q1.cv, .int .i64 s1.rsn, .int .i64 s2.typ, .int .i64 s2.org, .int .i64 s2.num, q2.hv, q2.tv, .int .i64 s2.srv, .int .i64 s2.off, q2.dv, .int .i64 s2.chk, .int .i64 s2.rep, .int .i64 s2.upp, .int .i64 s2.low, q2.cv, .int .i64 s2.rsn, .int .i64 s3.typ, .int .i64 s3.org, .int .i64 s3.num, q3.hv, q3.tv, .int .i64 s3.srv, .int .i64 s3.off, q3.dv, .int .i64 s3.chk, .int .i64 s3.rep, .int .i64 s3.upp, .int .i64 s3.low, q3.cv, .int .i64 s3.rsn, .int .i64 s4.typ, .int .i64 s4.org, .int .i64 s4.num, q4.hv, q4.tv, .int .i64 s4.srv, .int .i64 s4.off, q4.dv, .int .i64 s4.chk, .int .i64 s4.rep, .int .i64 s4.upp, .int .i64 s4.low, q4.cv, .int .i64 s4.rsn]
/-- What Take has gathered. -/
def TkP (w : World) (pr : Nat) (e : Ending) (W' : World) : Prop := e = .returned (.tuple #[]) ∧ (∃ oB oS oE ab asp ae cb cS ce bs ss es Cb Cs Ce, Rws W' pr oB oS oE ab asp ae cb cS ce bs ss es Cb Cs Ce ∧ ∀ g, g < w.heap.size → oB g = 0 ∧ oS g = 0 ∧ oE g = 0) ∧ Below w.heap.size w W'
set_option maxHeartbeats 1000000 in
theorem end_take {gd : Nat} {w V : World} {A1 A2 A3 A4 l1 u1 l2 u2 l3 u3 l4 u4 : Nat} {s1 s2 s3 s4 : Sg} {q1 q2 q3 q4 : SvX} (h1 : Vr gd V A1 l1 u1 s1 q1) (h2 : Vr gd V A2 l2 u2 s2 q2) (h3 : Vr gd V A3 l3 u3 s3 q3) (h4 : Vr gd V A4 l4 u4 s4 q4) (c1 : u1 ≤ l2) (c2 : u2 ≤ l3) (c3 : u3 ≤ l4) (hw : Below w.heap.size w V) (hl : w.heap.size ≤ l1) :
    Calls Tryd.prog 20 #[.pointer (some ⟨V.heap.size, 0, none⟩), .slice (some ⟨V.heap.size + 1, 0, none⟩) 4 4] ((V.alloc (.cells #[nlX, nlX, nlX] 43)).alloc (.cells (big4 s1 s2 s3 s4 q1 q2 q3 q4) 28)) (TkP w V.heap.size) := by
  obtain ⟨W, hW⟩ : ∃ W, (V.alloc (.cells #[nlX, nlX, nlX] 43)).alloc (.cells (big4 s1 s2 s3 s4 q1 q2 q3 q4) 28) = W := ⟨_, rfl⟩
  have hsz : W.heap.size = V.heap.size + 2 := by rw [← hW]; simp
  have hbW : Below V.heap.size V W := by rw [← hW]; exact ((Below.refl _ _).alloc (Nat.le_refl _) _).alloc (by simp) _
  have hp : W.heap[V.heap.size]? = some (.cells #[nlX, nlX, nlX] 43 (0, 0)) := by
    rw [← hW, Below.heap_alloc _ _ _ (by simp)]
    exact heap_alloc_new' _ _
  have hg : W.heap[V.heap.size + 1]? = some (.cells (big4 s1 s2 s3 s4 q1 q2 q3 q4) 28 (0, 0)) := by
    have := heap_alloc_new' (V.alloc (.cells #[nlX, nlX, nlX] 43)) (.cells (big4 s1 s2 s3 s4 q1 q2 q3 q4) 28)
    rw [World.size_alloc, hW] at this
    exact this
  have hc : ∀ i, W.cell? ⟨V.heap.size + 1, i, none⟩ = (big4 s1 s2 s3 s4 q1 q2 q3 q4)[i]? := fun i => cell_of_row _ _ i _ _ _ hg
  have g1 := (h1.keep (Oz.of hbW)).sgr
  have g2 := (h2.keep (Oz.of hbW)).sgr
  have g3 := (h3.keep (Oz.of hbW)).sgr
  have g4 := (h4.keep (Oz.of hbW)).sgr
  have sl : ∀ {lo hi : Nat} {s : Sg} {q : SvX}, SgR W lo hi s q → (∃ a n c, q.dv = .slice a n c) ∧ (∃ a n c, q.cv = .slice a n c) := fun {lo hi s q} h => by
    obtain ⟨B1, B2, h0, _⟩ := h.ex
    obtain ⟨a3, c3, e3⟩ := own_shape h0.data
    obtain ⟨a4, c4, e4⟩ := own_shape h0.clm
    exact ⟨⟨_, _, _, e3⟩, ⟨_, _, _, e4⟩⟩
  have x1 := g1.xcell (pr := V.heap.size) (.inl h1.top)
  have x2 := g2.xcell (pr := V.heap.size) (.inl h2.top)
  have x3 := g3.xcell (pr := V.heap.size) (.inl h3.top)
  have x4 := g4.xcell (pr := V.heap.size) (.inl h4.top)
  rw [hW]
  refine (take_any V.heap.size (V.heap.size + 1) [q1, q2, q3, q4] 4 W hp rfl (Nat.le_refl _) (by omega) ?_).mono ?_
  · intro k q hk
    match k, hk with
    | 0, hk => simp at hk; subst hk; exact ⟨(hc _).trans rfl, (hc _).trans rfl, (hc _).trans rfl, (hc _).trans rfl, (sl g1).1, (sl g1).2, x1.1, x1.2⟩
    | 1, hk => simp at hk; subst hk; exact ⟨(hc _).trans rfl, (hc _).trans rfl, (hc _).trans rfl, (hc _).trans rfl, (sl g2).1, (sl g2).2, x2.1, x2.2⟩
    | 2, hk => simp at hk; subst hk; exact ⟨(hc _).trans rfl, (hc _).trans rfl, (hc _).trans rfl, (hc _).trans rfl, (sl g3).1, (sl g3).2, x3.1, x3.2⟩
    | 3, hk => simp at hk; subst hk; exact ⟨(hc _).trans rfl, (hc _).trans rfl, (hc _).trans rfl, (hc _).trans rfl, (sl g4).1, (sl g4).2, x4.1, x4.2⟩
    | n + 4, hk => simp at hk
  · rintro e W' ⟨rfl, bv, sv, ev, hT⟩
    have kp : ∀ {A lo hi : Nat} {s : Sg} {q : SvX}, Vr gd V A lo hi s q → SgR W lo hi s q → SgR W' lo hi s q := fun {A lo hi s q} h g => g.keep (fun k k1 k2 => hT.block k (by have := h.top; omega) (by have := h.top; omega))
    obtain ⟨oB, oS, oE, ab, asp, ae, cb, cS, ce, Cb, Cs, Ce, hR, hz⟩ := rws_segs hT (kp h1 g1) (kp h2 g2) (kp h3 g3) (kp h4 g4) c1 c2 c3
    refine ⟨rfl, ⟨oB, oS, oE, ab, asp, ae, cb, cS, ce, _, _, _, Cb, Cs, Ce, hR, fun g hg => hz g (by omega)⟩, ?_⟩
    have hwW : Below w.heap.size w W := hw.trans (hbW.mono hw.size)
    exact ⟨hT.os.trans hwW.os, hT.tape.trans hwW.tape, hT.output.trans hwW.output, Nat.le_trans hwW.size hT.size, fun g hg => (hT.block g (Nat.lt_of_lt_of_le hg hwW.size) (by have := hw.size; omega)).trans (hwW.block g hg)⟩
theorem end_owned {w W' : World} {pr : Nat} {e0 : Ending} (h : TkP w pr e0 W') : Calls Tryd.prog 14 #[.pointer (some ⟨pr, 0, none⟩)] W' fun e w' => e = .returned (.bool true) ∧ Below w.heap.size w w' := by
  obtain ⟨_, ⟨oB, oS, oE, ab, asp, ae, cb, cS, ce, bs, ss, es, Cb, Cs, Ce, hR, hz⟩, hb⟩ := h
  refine (ownedRows_any hR).mono ?_
  rintro e w' ⟨rfl, hk⟩
  exact ⟨rfl, hk.os.trans hb.os, hk.tape.trans hb.tape, hk.output.trans hb.output, Nat.le_trans hb.size hk.size, fun g hg => (hk.block g (Nat.lt_of_lt_of_le hg hb.size) (by have := hz g hg; show oB g + oS g + oE g = 0; omega)).trans (hb.block g hg)⟩

end Go.Proofs.YtkkmoplijicmpabDoor
