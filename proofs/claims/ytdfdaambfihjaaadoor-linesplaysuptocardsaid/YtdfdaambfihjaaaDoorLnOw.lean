import Derived.Test.YtdfdaambfihjaaaDoorLnCq
import Derived.Test.YtdfdaambfihjaaaDoorOw2
import Derived.Test.YtdfdaambfihjaaaDoorLnAk
import Derived.Test.YtdfdaambfihjaaaDoorLnRk
import Derived.Test.YtdfdaambfihjaaaDoorLnCs
import Derived.Test.YtdfdaambfihjaaaDoorLnGp
import Derived.Test.YtdfdaambfihjaaaDoorLnGt
namespace Go.Proofs.YtdfdaambfihjaaaDoor.L
open Go.RowKit
set_option linter.unusedVariables false
set_option linter.unusedSimpArgs false

/-! ## Segments in memory of their own: what Owned wants -/
structure Sz where
  y : Sv
  hx : List Xr
  tx : List Xr
  lo : Nat
  hi : Nat
abbrev Sz.q (z : Sz) : SvX := ⟨z.y.hv, z.y.tv, z.y.dv, z.y.cv, z.hx, z.tx⟩
def Sz.At (W : World) (z : Sz) : Prop := SgO z.lo z.hi z.y z.hx z.tx W
def Sz.D (z z' : Sz) : Prop := ∀ g, z.lo ≤ g → g < z.hi → z'.lo ≤ g → g < z'.hi → False
theorem Sz.bytes {W : World} {z : Sz} (h : z.At W) : (∀ p ∈ rB z.y.s z.q, BOwn W 0 p.1 p.2 ∧ p.2.length ≤ 1048576) ∧ ((tB z.q).filterMap Value.ownBlock).Nodup ∧ (∀ g ∈ (tB z.q).filterMap Value.ownBlock, z.lo ≤ g ∧ g < z.hi) := by
  obtain ⟨c1, c2, c3, ⟨l1, l2, l3, l4⟩, h1, h2, h3, h4⟩ := h.ex
  have rh : ∀ g ∈ (z.hx.map Xr.val).filterMap Value.ownBlock, z.lo ≤ g ∧ g < c1 := fun g hg => by
    obtain ⟨x, hx, e⟩ := mem_filt hg
    exact ⟨(h1.1.lt g (.inr ⟨x, hx, e⟩)).1, h1.2.2 g (.inr ⟨x, hx, e⟩)⟩
  have rt : ∀ g ∈ (z.tx.map Xr.val).filterMap Value.ownBlock, c1 ≤ g ∧ g < c2 := fun g hg => by
    obtain ⟨x, hx, e⟩ := mem_filt hg
    exact ⟨(h2.1.lt g (.inr ⟨x, hx, e⟩)).1, h2.2.2 g (.inr ⟨x, hx, e⟩)⟩
  have rd : ∀ g ∈ [z.y.dv].filterMap Value.ownBlock, c2 ≤ g ∧ g < c3 := fun g hg => by
    obtain ⟨v, hv, e⟩ := List.mem_filterMap.mp hg
    simp at hv; subst hv
    exact ⟨(h3.1.lt g e).1, h3.2.2 g e⟩
  have e : tB z.q = [z.y.dv] ++ (z.hx.map Xr.val ++ z.tx.map Xr.val) := by simp [tB]
  have nd : ([z.y.dv].filterMap Value.ownBlock).Nodup := by
    cases hq : z.y.dv.ownBlock <;> simp [List.filterMap_cons, hq]
  refine ⟨fun p hp => ?_, ?_, fun g hg => ?_⟩
  · rcases List.mem_append.mp hp with hp | hp
    · rcases List.mem_cons.mp hp with rfl | hp
      · exact ⟨own_base h3.1 (Nat.zero_le _), h3.2.1.2⟩
      · obtain ⟨x, hx, rfl⟩ := List.mem_map.mp hp
        exact ⟨own_base (h1.1.data x hx).row (Nat.zero_le _), Nat.le_trans (h1.1.data x hx).small (by decide)⟩
    · obtain ⟨x, hx, rfl⟩ := List.mem_map.mp hp
      exact ⟨own_base (h2.1.data x hx).row (Nat.zero_le _), Nat.le_trans (h2.1.data x hx).small (by decide)⟩
  · rw [e, List.filterMap_append, List.filterMap_append]
    refine List.nodup_append.mpr ⟨nd, List.nodup_append.mpr ⟨by rw [filt_map]; exact h1.1.nodup, by rw [filt_map]; exact h2.1.nodup, fun a ha b hb e => ?_⟩, fun a ha b hb e => ?_⟩
    · have := rh a ha; have := rt b hb; omega
    · have := rd a ha
      rcases List.mem_append.mp hb with hb | hb
      · have := rh b hb; omega
      · have := rt b hb; omega
  · rw [e, List.filterMap_append, List.filterMap_append] at hg
    rcases List.mem_append.mp hg with hg | hg
    · have := rd g hg; omega
    · rcases List.mem_append.mp hg with hg | hg
      · have := rh g hg; omega
      · have := rt g hg; omega
theorem Sz.spans {W : World} {z : Sz} (h : z.At W) : C.SOwn W 0 z.y.cv z.y.s.clm ∧ z.y.s.clm.length ≤ 1048576 ∧ ∀ g, z.y.cv.ownBlock = some g → z.lo ≤ g ∧ g < z.hi := by
  obtain ⟨c1, c2, c3, ⟨l1, l2, l3, l4⟩, h1, h2, h3, h4⟩ := h.ex
  exact ⟨own_base h4.1 (Nat.zero_le _), h4.2.1, fun g hg => by have := (h4.1.lt g hg).1; have := h4.2.2 g hg; omega⟩
theorem Sz.exts {W : World} {z : Sz} (h : z.At W) : (EOwn W 0 z.y.hv z.hx ∧ EOwn W 0 z.y.tv z.tx ∧ z.hx.length ≤ 15 ∧ z.tx.length ≤ 15) ∧ ((tE z.q).filterMap Value.ownBlock).Nodup ∧ (∀ g ∈ (tE z.q).filterMap Value.ownBlock, z.lo ≤ g ∧ g < z.hi) := by
  obtain ⟨c1, c2, c3, ⟨l1, l2, l3, l4⟩, h1, h2, h3, h4⟩ := h.ex
  have rh : ∀ g, z.y.hv.ownBlock = some g → z.lo ≤ g ∧ g < c1 := fun g e => ⟨(h1.1.lt g (.inl e)).1, h1.2.2 g (.inl e)⟩
  have rt : ∀ g, z.y.tv.ownBlock = some g → c1 ≤ g ∧ g < c2 := fun g e => ⟨(h2.1.lt g (.inl e)).1, h2.2.2 g (.inl e)⟩
  refine ⟨⟨own_base h1.1.row (Nat.zero_le _), own_base h2.1.row (Nat.zero_le _), h1.2.1, h2.2.1⟩, ?_, fun g hg => ?_⟩
  · unfold tE
    cases e1 : z.y.hv.ownBlock with
    | none => cases e2 : z.y.tv.ownBlock <;> simp [List.filterMap_cons, e1, e2]
    | some a =>
      cases e2 : z.y.tv.ownBlock with
      | none => simp [List.filterMap_cons, e1, e2]
      | some b =>
        have := rh a e1
        have := rt b e2
        simp [List.filterMap_cons, e1, e2]
        omega
  · obtain ⟨v, hv, e⟩ := List.mem_filterMap.mp hg
    unfold tE at hv
    simp at hv
    rcases hv with rfl | rfl
    · have := rh g e; omega
    · have := rt g e; omega
theorem Sz.xcell {W : World} {z : Sz} {pr : Nat} (h : z.At W) (hpr : z.hi ≤ pr ∨ pr < z.lo) : XCell W pr z.y.hv z.hx ∧ XCell W pr z.y.tv z.tx := by
  obtain ⟨c1, c2, c3, ⟨l1, l2, l3, l4⟩, h1, h2, h3, h4⟩ := h.ex
  have key : ∀ {base : Nat} {v : Value} {xs : List Xr}, XOwn W base v xs → xs.length ≤ 15 → (∀ g, v.ownBlock = some g → z.lo ≤ g ∧ g < z.hi) → XCell W pr v xs := fun {base v xs} hx h15 hr => by
    rcases Nat.eq_zero_or_pos xs.length with h0 | h0
    · obtain ⟨a, c, rfl⟩ := own_shape hx.row
      exact ⟨h15, a, c, rfl, .inl (List.eq_nil_of_length_eq_zero h0)⟩
    · obtain ⟨g, cap, hv⟩ := own_nz hx.row h0
      have hrow := hx.row
      rw [hv] at hrow hr ⊢
      refine ⟨h15, _, cap, rfl, .inr ⟨g, rfl, fun e => by have := hr g rfl; omega, fun j x hj => ?_⟩⟩
      have hi : j < xs.length := (List.getElem?_eq_some_iff.mp hj).1
      exact (World.ownsRow.cellAt hrow _ (by omega)).trans (xc_get xs j x hj).2
  exact ⟨key h1.1 h1.2.1 (fun g e => ⟨(h1.1.lt g (.inl e)).1, by have := h1.2.2 g (.inl e); omega⟩), key h2.1 h2.2.1 (fun g e => ⟨by have := (h2.1.lt g (.inl e)).1; omega, by have := h2.2.2 g (.inl e); omega⟩)⟩
theorem flat_nodup {f : Sz → List Nat} : ∀ {zs : List Sz}, (∀ z ∈ zs, (f z).Nodup ∧ ∀ g ∈ f z, z.lo ≤ g ∧ g < z.hi) → zs.Pairwise Sz.D → (zs.flatMap f).Nodup
  | [], _, _ => by simp
  | z :: r, h, hp => by
    rw [List.flatMap_cons]
    rw [List.pairwise_cons] at hp
    refine List.nodup_append.mpr ⟨(h z List.mem_cons_self).1, flat_nodup (fun z hz => h z (List.mem_cons_of_mem _ hz)) hp.2, fun a ha b hb e => ?_⟩
    obtain ⟨z', hz', hb'⟩ := List.mem_flatMap.mp hb
    have h1 := (h z List.mem_cons_self).2 a ha
    have h2 := (h z' (List.mem_cons_of_mem _ hz')).2 b hb'
    exact hp.1 z' hz' a h1.1 h1.2 (by omega) (by omega)
theorem filt_flat {α : Type} (f : α → List Value) : ∀ l : List α, (l.flatMap f).filterMap Value.ownBlock = l.flatMap fun x => (f x).filterMap Value.ownBlock
  | [] => rfl
  | x :: r => by rw [List.flatMap_cons, List.filterMap_append, filt_flat f r, List.flatMap_cons]
theorem map_flat {α β γ : Type} (g : β → γ) (f : α → List β) : ∀ l : List α, (l.flatMap f).map g = l.flatMap fun x => (f x).map g
  | [] => rfl
  | x :: r => by rw [List.flatMap_cons, List.map_append, map_flat g f r, List.flatMap_cons]
theorem len_flat {α β : Type} (f : α → List β) (c : Nat) : ∀ l : List α, (∀ x ∈ l, (f x).length ≤ c) → (l.flatMap f).length ≤ c * l.length
  | [], _ => by simp
  | x :: r, h => by
    have h1 := h x List.mem_cons_self
    have h2 := len_flat f c r (fun x hx => h x (List.mem_cons_of_mem _ hx))
    rw [List.flatMap_cons, List.length_append, List.length_cons, Nat.mul_succ]
    omega
theorem getD_len {α : Type} {R : List (Value × List α)} {b : Nat} (h : ∀ (j : Nat) v, (R.map Prod.fst)[j]? = some v → ((R.map Prod.snd).getD j []).length ≤ b) (j : Nat) : ((R.map Prod.snd).getD j []).length ≤ b := by
  cases hj : (R.map Prod.fst)[j]? with
  | some v => exact h j v hj
  | none =>
    have : (R.map Prod.snd)[j]? = none := by
      rw [List.getElem?_map] at hj ⊢
      cases h : R[j]? with
      | none => rfl
      | some p => rw [h] at hj; cases hj
    rw [List.getD_eq_getElem?_getD, this]
    simp
/-- What Take has gathered of segments, each in memory of its own: what Owned wants. -/
theorem rws_list {w0 W : World} {pr L : Nat} {bv sv ev : Value} {zs : List Sz} (hT : TkX w0 W pr ((zs.map Sz.q).flatMap tB) ((zs.map Sz.q).map SvX.cv) ((zs.map Sz.q).flatMap tE) bv sv ev) (hz : ∀ z ∈ zs, z.At W) (hp : zs.Pairwise Sz.D) (hN : zs.length ≤ 1048576) (hL : ∀ z ∈ zs, L ≤ z.lo) :
    ∃ oB oS oE ab asp ae cb cS ce Cb Cs Ce, Rws W pr oB oS oE ab asp ae cb cS ce ((zs.map Sz.q).flatMap tB) ((zs.map Sz.q).map SvX.cv) ((zs.map Sz.q).flatMap tE) Cb Cs Ce ∧ ∀ g, g < L → oB g = 0 ∧ oS g = 0 ∧ oE g = 0 := by
  obtain ⟨RB, hRB⟩ : ∃ R, R = zs.flatMap (fun z => rB z.y.s z.q) := ⟨_, rfl⟩
  obtain ⟨RE, hRE⟩ : ∃ R : List (Value × List Xr), R = zs.flatMap (fun z => [(z.y.hv, z.hx), (z.y.tv, z.tx)]) := ⟨_, rfl⟩
  obtain ⟨RS, hRS⟩ : ∃ R : List (Value × List C.Sp), R = zs.map (fun z => (z.y.cv, z.y.s.clm)) := ⟨_, rfl⟩
  have fB : (zs.map Sz.q).flatMap tB = RB.map Prod.fst := by
    rw [hRB, map_flat, List.flatMap_map]
    refine congrArg (fun f => zs.flatMap f) (funext fun z => ?_)
    exact (rB_fst z.y.s z.q).symm
  have fE : (zs.map Sz.q).flatMap tE = RE.map Prod.fst := by
    rw [hRE, map_flat, List.flatMap_map]
    rfl
  have fS : (zs.map Sz.q).map SvX.cv = RS.map Prod.fst := by rw [hRS, List.map_map, List.map_map]; rfl
  have eB : (RB.map Prod.fst).filterMap Value.ownBlock = zs.flatMap (fun z => (tB z.q).filterMap Value.ownBlock) := by
    rw [← fB, List.flatMap_map, filt_flat]
  have eE : (RE.map Prod.fst).filterMap Value.ownBlock = zs.flatMap (fun z => (tE z.q).filterMap Value.ownBlock) := by
    rw [← fE, List.flatMap_map, filt_flat]
  have eS : (RS.map Prod.fst).filterMap Value.ownBlock = zs.flatMap (fun z => [z.y.cv].filterMap Value.ownBlock) := by
    have h1 : RS.map Prod.fst = zs.flatMap (fun z => [z.y.cv]) := by
      rw [hRS, List.map_map]
      clear hRS fS hT hz hp hN hL hRB hRE fB fE eB eE
      induction zs with
      | nil => rfl
      | cons z r ih => rw [List.map_cons, List.flatMap_cons, ← ih]; rfl
    rw [h1, filt_flat]
  have rone : ∀ {v : Value} {l u : Nat}, (∀ g, v.ownBlock = some g → l ≤ g ∧ g < u) → ∀ g ∈ [v].filterMap Value.ownBlock, l ≤ g ∧ g < u := fun {v l u} h g hg => by
    obtain ⟨x, hx, e⟩ := List.mem_filterMap.mp hg
    simp at hx; subst hx
    exact h g e
  have one : ∀ v : Value, ([v].filterMap Value.ownBlock).Nodup := fun v => by cases hq : v.ownBlock <;> simp [List.filterMap_cons, hq]
  have dB := idx_nodup (RB.map Prod.fst) (by rw [eB]; exact flat_nodup (fun z h => (Sz.bytes (hz z h)).2) hp)
  have dE := idx_nodup (RE.map Prod.fst) (by rw [eE]; exact flat_nodup (fun z h => (Sz.exts (hz z h)).2) hp)
  have dS := idx_nodup (RS.map Prod.fst) (by rw [eS]; exact flat_nodup (fun z h => ⟨one _, rone (Sz.spans (hz z h)).2.2⟩) hp)
  obtain ⟨oB, oB1, oB2⟩ := own_tagsX _ dB
  obtain ⟨oS, oS1, oS2⟩ := own_tagsX _ dS
  obtain ⟨oE, oE1, oE2⟩ := own_tagsX _ dE
  have ownB : ∀ p ∈ RB, BOwn W 0 p.1 p.2 ∧ p.2.length ≤ 1048576 := fun p h => by
    rw [hRB] at h
    obtain ⟨z, h1, h2⟩ := List.mem_flatMap.mp h
    exact (Sz.bytes (hz z h1)).1 p h2
  have ownE : ∀ p ∈ RE, EOwn W 0 p.1 p.2 ∧ p.2.length ≤ 15 := fun p h => by
    rw [hRE] at h
    obtain ⟨z, h1, h2⟩ := List.mem_flatMap.mp h
    have e := (Sz.exts (hz z h1)).1
    simp only [List.mem_cons, List.not_mem_nil, or_false] at h2
    rcases h2 with rfl | rfl
    · exact ⟨e.1, e.2.2.1⟩
    · exact ⟨e.2.1, e.2.2.2⟩
  have ownS : ∀ p ∈ RS, C.SOwn W 0 p.1 p.2 ∧ p.2.length ≤ 1048576 := fun p h => by
    rw [hRS] at h
    obtain ⟨z, h1, rfl⟩ := List.mem_map.mp h
    have e := Sz.spans (hz z h1)
    exact ⟨e.1, e.2.1⟩
  have memB : ∀ (j : Nat) v, (RB.map Prod.fst)[j]? = some v → BOwn W 0 v ((RB.map Prod.snd).getD j []) ∧ ((RB.map Prod.snd).getD j []).length ≤ 1048576 := fun j v hj => by
    obtain ⟨p, hp, e, e'⟩ := pair_at RB [] j v hj
    rw [e', ← e]; exact ownB p hp
  have memE : ∀ (j : Nat) v, (RE.map Prod.fst)[j]? = some v → EOwn W 0 v ((RE.map Prod.snd).getD j []) ∧ ((RE.map Prod.snd).getD j []).length ≤ 15 := fun j v hj => by
    obtain ⟨p, hp, e, e'⟩ := pair_at RE [] j v hj
    rw [e', ← e]; exact ownE p hp
  have memS : ∀ (j : Nat) v, (RS.map Prod.fst)[j]? = some v → C.SOwn W 0 v ((RS.map Prod.snd).getD j []) ∧ ((RS.map Prod.snd).getD j []).length ≤ 1048576 := fun j v hj => by
    obtain ⟨p, hp, e, e'⟩ := pair_at RS [] j v hj
    rw [e', ← e]; exact ownS p hp
  have lenB : ∀ j, ((RB.map Prod.snd).getD j []).length ≤ 1048600 := getD_len (fun j v hj => by have := (memB j v hj).2; omega)
  have lenE : ∀ j, ((RE.map Prod.snd).getD j []).length ≤ 1048600 := getD_len (fun j v hj => by have := (memE j v hj).2; omega)
  have lenS : ∀ j, ((RS.map Prod.snd).getD j []).length ≤ 1048600 := getD_len (fun j v hj => by have := (memS j v hj).2; omega)
  have zB : ∀ {b e z n : Nat} {v : Value} {xs : List Value} {g : Nat}, W.ownsRow b e z v n xs → e ≠ 5 → v.ownBlock = some g → oB g = 0 := fun {b e z n v xs g} h he hg => oB2 g fun j u hj hu => own_tyX (memB j u hj).1 h (fun e' => he e'.symm) hu hg
  have zS : ∀ {b e z n : Nat} {v : Value} {xs : List Value} {g : Nat}, W.ownsRow b e z v n xs → e ≠ 91 → v.ownBlock = some g → oS g = 0 := fun {b e z n v xs g} h he hg => oS2 g fun j u hj hu => own_tyX (memS j u hj).1 h (fun e' => he e'.symm) hu hg
  have zE : ∀ {b e z n : Nat} {v : Value} {xs : List Value} {g : Nat}, W.ownsRow b e z v n xs → e ≠ 93 → v.ownBlock = some g → oE g = 0 := fun {b e z n v xs g} h he hg => oE2 g fun j u hj hu => own_tyX (memE j u hj).1 h (fun e' => he e'.symm) hu hg
  have lE : RE.length ≤ 2 * zs.length := by rw [hRE]; exact len_flat _ 2 zs (fun z _ => by simp)
  have lS : RS.length = zs.length := by rw [hRS, List.length_map]
  have lB : RB.length ≤ 31 * zs.length := by
    rw [hRB]
    refine len_flat _ 31 zs (fun z h => ?_)
    have := (Sz.exts (hz z h)).1.2.2
    simp only [rB, List.length_append, List.length_cons, List.length_map]
    omega
  rw [fB, fS, fE] at hT ⊢
  obtain ⟨ab, cb, hbv⟩ := own_shape hT.rb
  obtain ⟨asp, cS, hsv⟩ := own_shape hT.rs
  obtain ⟨ae, ce, hev⟩ := own_shape hT.re
  subst hbv hsv hev
  have inS : ∀ g, oS g ≠ 0 → ∃ (j : Nat) (v : Value), (RS.map Prod.fst)[j]? = some v ∧ v.ownBlock = some g := fun g h => Classical.byContradiction fun hn => h (oS2 g fun j v hj hv => hn ⟨j, v, hj, hv⟩)
  have inE : ∀ g, oE g ≠ 0 → ∃ (j : Nat) (v : Value), (RE.map Prod.fst)[j]? = some v ∧ v.ownBlock = some g := fun g h => Classical.byContradiction fun hn => h (oE2 g fun j v hj hv => hn ⟨j, v, hj, hv⟩)
  refine ⟨oB, oS, oE, ab, asp, ae, cb, cS, ce, fun j => (RB.map Prod.snd).getD j [], fun j => (RS.map Prod.snd).getD j [], fun j => (RE.map Prod.snd).getD j [],
    ⟨hT.box, ⟨oB2 pr fun j v hj => own_hpX (memB j v hj).1 hT.box (by decide), oS2 pr fun j v hj => own_hpX (memS j v hj).1 hT.box (by decide)⟩,
      ⟨fun j v _ hv => (memB j v hv).1, fun j v g _ hv hg => oB1 j v g hv hg⟩, ⟨fun j v _ hv => (memS j v hv).1, fun j v g _ hv hg => oS1 j v g hv hg⟩, ⟨fun j v _ hv => (memE j v hv).1, fun j v g _ hv hg => oE1 j v g hv hg⟩,
      nam_own _ hT.rb (fun g hg => zB hT.rb (by decide) (own_zero hT.rb hg)), nam_own _ hT.rs (fun g hg => zS hT.rs (by decide) (own_zero hT.rs hg)), nam_own _ hT.re (fun g hg => zE hT.re (by decide) (own_zero hT.re hg)),
      fun g _ h => ?_, fun g _ h => ?_, fun gl off e => zB hT.rs (by decide) (own_zero hT.rs e), fun gl off e => ⟨zB hT.re (by decide) (own_zero hT.re e), zS hT.re (by decide) (own_zero hT.re e)⟩,
      ⟨by rw [List.length_map]; omega, by rw [List.length_map]; omega, by rw [List.length_map]; omega⟩, ⟨lenB, lenS, lenE⟩⟩, fun g hg => ⟨?_, ?_, ?_⟩⟩
  · obtain ⟨j, v, hj, hv⟩ := inS g h
    exact zB (memS j v hj).1 (by decide) hv
  · obtain ⟨j, v, hj, hv⟩ := inE g h
    exact ⟨zB (memE j v hj).1 (by decide) hv, zS (memE j v hj).1 (by decide) hv⟩
  · refine oB2 g fun j v hj hv => ?_
    have hm : g ∈ (RB.map Prod.fst).filterMap Value.ownBlock := List.mem_filterMap.mpr ⟨v, List.mem_of_getElem? hj, hv⟩
    rw [eB] at hm
    obtain ⟨z, h1, h2⟩ := List.mem_flatMap.mp hm
    have := (Sz.bytes (hz z h1)).2.2 g h2
    have := hL z h1
    omega
  · refine oS2 g fun j v hj hv => ?_
    have hm : g ∈ (RS.map Prod.fst).filterMap Value.ownBlock := List.mem_filterMap.mpr ⟨v, List.mem_of_getElem? hj, hv⟩
    rw [eS] at hm
    obtain ⟨z, h1, h2⟩ := List.mem_flatMap.mp hm
    have := rone (Sz.spans (hz z h1)).2.2 g h2
    have := hL z h1
    omega
  · refine oE2 g fun j v hj hv => ?_
    have hm : g ∈ (RE.map Prod.fst).filterMap Value.ownBlock := List.mem_filterMap.mpr ⟨v, List.mem_of_getElem? hj, hv⟩
    rw [eE] at hm
    obtain ⟨z, h1, h2⟩ := List.mem_flatMap.mp hm
    have := (Sz.exts (hz z h1)).2.2 g h2
    have := hL z h1
    omega

end Go.Proofs.YtdfdaambfihjaaaDoor.L

namespace Go.Proofs.YtdfdaambfihjaaaDoor.L
open Go.RowKit
set_option linter.unusedVariables false
set_option linter.unusedSimpArgs false

/-! ## The law's world: two lines, the document's two lines, what was taken -/
abbrev Plc := Nat × Int × Nat
/-- What may change: 1, 3 the lines' own; 2, 4 the document's; 5, 6 the rows of what was taken; 7 nobody's. -/
def mtb (pl : Nat → Plc) (g : Nat) : Prop := 1 ≤ (pl g).1 ∧ (pl g).1 ≤ 7
/-- One side: a line of the program's, and the document's. -/
structure Sde where
  p : Nat
  m : Nat
  r : Nat
  lim : Int
  S : Pm
  c : Nat
  E : List En
  G : Int → Nat → List Sz
  v : Value
  ws : List Wa
structure SzI (w0 wr : World) (pl : Nat → Plc) (tag : Plc) (z : Sz) : Prop where
  at' : ∀ W, Kl (mtb pl) wr W → z.At W
  lo : w0.heap.size ≤ z.lo
  hi : z.hi ≤ wr.heap.size
  tg : ∀ g, z.lo ≤ g → g < z.hi → pl g = tag
def RsI (wr : World) (pl : Nat → Plc) (y : Sv) : Prop := ∀ W, Kl (mtb pl) wr W → SAt W y
structure SdI (w0 wr : World) (pl : Nat → Plc) (t M : Nat) (A : Sde) : Prop where
  lg : Lg wr A.p A.m A.lim A.S M A.c A.E
  rl : Rl wr A.r A.lim A.v A.ws
  fl : ∀ g, FL A.m A.S g → (pl g).1 = t
  fr : (pl A.r).1 = t + 1
  fv : ∀ g, A.v.ownBlock = some g → (pl g).1 = t + 1
  fp : (pl A.p).1 = 0
  gw : ∀ K i, i < 3 → Wt (A.S K) i = (A.G K i).map Sz.y
  sg : ∀ K i z, i < 3 → z ∈ A.G K i → SzI w0 wr pl (t + 10, K, i) z
  pw : ∀ K i, i < 3 → (A.G K i).Pairwise Sz.D
  sr : ∀ x ∈ A.ws, RsI wr pl x.y ∧ x.y.Sl ∧ SgB x.y.s ∧ 0 ≤ x.y.s.typ
  few : A.ws.length ≤ M
/-- The two lines say the same. -/
def RelS (A : Sde) : Prop := ∀ K i, i < 3 → (A.G K i).map (fun z => z.y.s) = (Fk K i A.ws).map Sv.s
/-- A place's tag in a world that has gone on: the same below, but for what a side gave away. -/
def Same (wr : World) (t : Nat) (pl pl' : Nat → Plc) : Prop := ∀ g, g < wr.heap.size → pl' g = pl g ∨ ((pl g).1 = t + 10 ∧ (pl' g).1 = 15)
theorem Same.mtb {wr : World} {t : Nat} {pl pl' : Nat → Plc} (h : Same wr t pl pl') {g : Nat} (hg : g < wr.heap.size) (hm : mtb pl' g) : L.mtb pl g := by
  rcases h g hg with e | e
  · unfold L.mtb at *; rw [e] at hm; exact hm
  · unfold L.mtb at hm; omega
theorem Same.eq {wr : World} {t : Nat} {pl pl' : Nat → Plc} (h : Same wr t pl pl') {g : Nat} (hg : g < wr.heap.size) (hn : (pl g).1 ≠ t + 10) : pl' g = pl g := (h g hg).elim id (fun e => absurd e.1 hn)
theorem SzI.keep {w0 wr wr' : World} {t : Nat} {pl pl' : Nat → Plc} {tag : Plc} {z : Sz} {T : Nat → Prop} (h : SzI w0 wr pl tag z) (hk : Kl T wr wr') (hT : ∀ g, g < wr.heap.size → T g → mtb pl g) (hs : Same wr t pl pl') (ht : tag.1 ≠ t + 10) : SzI w0 wr' pl' tag z :=
  ⟨fun W hW => h.at' W ((hk.mono hT).then hW (fun g hg e => hs.mtb hg e)), h.lo, Nat.le_trans h.hi hk.size, fun g h1 h2 => by
    have e := h.tg g h1 h2
    rw [hs.eq (by have := h.hi; omega) (by rw [e]; exact ht)]
    exact e⟩
/-- The same, of the side's own, where the tag has stayed. -/
theorem SzI.keep2 {w0 wr wr' : World} {t : Nat} {pl pl' : Nat → Plc} {tag : Plc} {z : Sz} {T : Nat → Prop} (h : SzI w0 wr pl tag z) (hk : Kl T wr wr') (hT : ∀ g, g < wr.heap.size → T g → mtb pl g) (hs : Same wr t pl pl') {tag' : Plc} (ht : ∀ g, z.lo ≤ g → g < z.hi → pl' g = tag') : SzI w0 wr' pl' tag' z :=
  ⟨fun W hW => h.at' W ((hk.mono hT).then hW (fun g hg e => hs.mtb hg e)), h.lo, Nat.le_trans h.hi hk.size, ht⟩
theorem RsI.keep {wr wr' : World} {t : Nat} {pl pl' : Nat → Plc} {y : Sv} {T : Nat → Prop} (h : RsI wr pl y) (hk : Kl T wr wr') (hT : ∀ g, g < wr.heap.size → T g → mtb pl g) (hs : Same wr t pl pl') : RsI wr' pl' y := fun W hW => h W ((hk.mono hT).then hW (fun g hg e => hs.mtb hg e))
/-- A side that was not touched. -/
theorem SdI.keep {w0 wr wr' : World} {t t2 M M' : Nat} {pl pl' : Nat → Plc} {A : Sde} {T : Nat → Prop} (h : SdI w0 wr pl t2 M A) (hk : Kl T wr wr') (hT : ∀ g, g < wr.heap.size → T g → mtb pl g ∧ (pl g).1 ≠ t2 ∧ (pl g).1 ≠ t2 + 1) (hs : Same wr t pl pl') (ht : t2 ≠ t) (h8 : t2 < 6 ∧ t < 6) (hM : M ≤ M') : SdI w0 wr' pl' t2 M' A := by
  have e1 : ∀ g, g < wr.heap.size → (pl g).1 < 10 → pl' g = pl g := fun g hg h1 => hs.eq hg (by omega)
  have hTm : ∀ g, g < wr.heap.size → T g → mtb pl g := fun g hg e => (hT g hg e).1
  refine ⟨(h.lg.keep hk (fun g hg e => (hT g (h.lg.lt hg) e).2.1 (h.fl g hg)) (fun e => by have := (hT _ h.lg.plt e).1; unfold mtb at this; have := h.fp; omega)).mono hM, ?_, fun g hg => ?_, ?_, fun g hg => ?_, ?_, h.gw, fun K i z hi hz => (h.sg K i z hi hz).keep hk hTm hs (by show t2 + 10 ≠ t + 10; omega), h.pw, fun x hx => ⟨(h.sr x hx).1.keep hk hTm hs, (h.sr x hx).2⟩, Nat.le_trans h.few hM⟩
  · have hr := (Array.getElem?_eq_some_iff.1 h.rl.box).1
    exact ⟨(hk.block _ hr (fun e => (hT _ hr e).2.2 h.fr)).trans h.rl.box, hk.own h.rl.row (fun g hg e => (hT g (h.rl.row.lt g hg).2 e).2.2 (h.fv g hg))⟩
  · rw [e1 g (h.lg.lt hg) (by rw [h.fl g hg]; omega)]; exact h.fl g hg
  · rw [e1 _ (Array.getElem?_eq_some_iff.1 h.rl.box).1 (by rw [h.fr]; omega)]; exact h.fr
  · rw [e1 g (h.rl.row.lt g hg).2 (by rw [h.fv g hg]; omega)]; exact h.fv g hg
  · rw [e1 _ h.lg.plt (by rw [h.fp]; omega)]; exact h.fp
structure Py (w0 wr : World) (pl : Nat → Plc) (M : Nat) (X : Nat → Sde) (hvl : Value) (Hr : List Sv) (H : List Sz) (wvl : Value) (Wr : List Sv) (bl br : Nat) : Prop where
  sd : ∀ k, k < 2 → SdI w0 wr pl (1 + 2 * k) M (X k)
  bw : Below w0.heap.size w0 wr
  nn : ∀ g, g < wr.heap.size → mtb pl g → w0.heap.size ≤ g
  hr : wr.ownsRow 0 37 14 hvl Hr.length (seg Hr)
  wr' : wr.ownsRow 0 37 14 wvl Wr.length (seg Wr)
  fh : ∀ g, hvl.ownBlock = some g → (pl g).1 = 5
  fw : ∀ g, wvl.ownBlock = some g → (pl g).1 = 6
  hs : ∀ z ∈ H, SzI w0 wr pl (15, 0, 0) z
  hp : H.Pairwise Sz.D
  hws : ∀ y ∈ Wr, RsI wr pl y
  lb : wr.heap[bl]? = some (.cells #[.pointer (some ⟨(X 0).p, 0, none⟩), .pointer (some ⟨(X 1).p, 0, none⟩)] 24 (0, 0))
  rb : wr.heap[br]? = some (.cells #[.pointer (some ⟨(X 0).r, 0, none⟩), .pointer (some ⟨(X 1).r, 0, none⟩)] 27 (0, 0))
  pb : (pl bl).1 = 0 ∧ (pl br).1 = 0
def upX (X : Nat → Sde) (k : Nat) (A : Sde) : Nat → Sde := fun j => if j = k then A else X j
theorem upX_same (X : Nat → Sde) (k : Nat) (A : Sde) : upX X k A k = A := by simp [upX]
theorem upX_other (X : Nat → Sde) {k j : Nat} (A : Sde) (h : j ≠ k) : upX X k A j = X j := by simp [upX, h]
/-- A call on one side: nothing but what bears its tags, or nobody's, has changed. -/
theorem Py.call {w0 wr wn : World} {pl pl' : Nat → Plc} {M M' k bl br : Nat} {X : Nat → Sde} {hvl wvl : Value} {H : List Sz} {Wr Hr : List Sv} {A : Sde} {T : Nat → Prop} (h : Py w0 wr pl M X hvl Hr H wvl Wr bl br) (hk2 : k < 2) (hM : M ≤ M') (hk : Kl T wr wn) (hT : ∀ g, g < wr.heap.size → T g → (pl g).1 = 1 + 2 * k ∨ (pl g).1 = 2 + 2 * k ∨ (pl g).1 = 7) (hs : Same wr (1 + 2 * k) pl pl') (hA : SdI w0 wn pl' (1 + 2 * k) M' A) (hp : A.p = (X k).p) (hr : A.r = (X k).r) : Py w0 wn pl' M' (upX X k A) hvl Hr H wvl Wr bl br := by
  have hTm : ∀ g, g < wr.heap.size → T g → mtb pl g := fun g hg e => by have := hT g hg e; unfold mtb; omega
  have e1 : ∀ g, g < wr.heap.size → (pl g).1 < 10 → pl' g = pl g := fun g hg h1 => hs.eq hg (by omega)
  have eX : ∀ j, j < 2 → (upX X k A j).p = (X j).p ∧ (upX X k A j).r = (X j).r := fun j hj => by
    by_cases e : j = k
    · subst e; rw [upX_same]; exact ⟨hp, hr⟩
    · rw [upX_other X A e]; exact ⟨rfl, rfl⟩
  have hh : ∀ g, hvl.ownBlock = some g → ¬ T g := fun g hg e => by have := hT g (h.hr.lt g hg).2 e; have := h.fh g hg; omega
  have hw : ∀ g, wvl.ownBlock = some g → ¬ T g := fun g hg e => by have := hT g (h.wr'.lt g hg).2 e; have := h.fw g hg; omega
  have hbl := (Array.getElem?_eq_some_iff.1 h.lb).1
  have hbr := (Array.getElem?_eq_some_iff.1 h.rb).1
  refine ⟨fun j hj => ?_, ?_, fun g hg hm => ?_, hk.own h.hr hh, hk.own h.wr' hw, fun g hg => ?_, fun g hg => ?_, fun z hz => (h.hs z hz).keep hk hTm hs (by show (15 : Nat) ≠ _; omega), h.hp, fun y hy => (h.hws y hy).keep hk hTm hs, ?_, ?_, ?_, ?_⟩
  · by_cases e : j = k
    · subst e; rw [upX_same]; exact hA
    · rw [upX_other X A e]
      exact (h.sd j hj).keep hk (fun g hg e2 => ⟨hTm g hg e2, by have := hT g hg e2; omega, by have := hT g hg e2; omega⟩) hs (by omega) (by omega) hM
  · have k1 := (Kl.of_below (S := T) h.bw).then hk (fun _ _ e => e)
    exact ⟨k1.os, k1.tape, k1.output, k1.size, fun g hg => k1.block g hg (fun e => by have hl := Nat.lt_of_lt_of_le hg h.bw.size; have := h.nn g hl (hTm g hl e); omega)⟩
  · by_cases hg2 : g < wr.heap.size
    · exact h.nn g hg2 (hs.mtb hg2 hm)
    · have := h.bw.size; omega
  · rw [e1 g (h.hr.lt g hg).2 (by rw [h.fh g hg]; omega)]; exact h.fh g hg
  · rw [e1 g (h.wr'.lt g hg).2 (by rw [h.fw g hg]; omega)]; exact h.fw g hg
  · rw [(eX 0 (by omega)).1, (eX 1 (by omega)).1]
    exact (hk.block bl hbl (fun e => by have := hT bl hbl e; have := h.pb.1; omega)).trans h.lb
  · rw [(eX 0 (by omega)).2, (eX 1 (by omega)).2]
    exact (hk.block br hbr (fun e => by have := hT br hbr e; have := h.pb.2; omega)).trans h.rb
  · rw [e1 bl hbl (by rw [h.pb.1]; omega)]; exact h.pb.1
  · rw [e1 br hbr (by rw [h.pb.2]; omega)]; exact h.pb.2
theorem upX_id (X : Nat → Sde) (k : Nat) : upX X k (X k) = X := by
  funext j
  unfold upX
  split
  · next e => rw [e]
  · rfl
/-- Nothing that is ours has changed; what is new, and what was nobody's, is nobody's. -/
def trash (wr : World) (pl : Nat → Plc) : Nat → Plc := fun g => if g < wr.heap.size then pl g else (7, 0, 0)
theorem trash_old {wr : World} {pl : Nat → Plc} {g : Nat} (h : g < wr.heap.size) : trash wr pl g = pl g := by simp [trash, h]
theorem trash_new {wr : World} {pl : Nat → Plc} {g : Nat} (h : wr.heap.size ≤ g) : trash wr pl g = (7, 0, 0) := by simp [trash]; omega
theorem trash_same (wr : World) (t : Nat) (pl : Nat → Plc) : Same wr t pl (trash wr pl) := fun g hg => .inl (trash_old hg)
theorem Py.law {w0 wr wn : World} {pl : Nat → Plc} {M bl br : Nat} {X : Nat → Sde} {hvl wvl : Value} {H : List Sz} {Wr Hr : List Sv} {T : Nat → Prop} (h : Py w0 wr pl M X hvl Hr H wvl Wr bl br) (hk : Kl T wr wn) (hT : ∀ g, g < wr.heap.size → T g → (pl g).1 = 7) : Py w0 wn (trash wr pl) M X hvl Hr H wvl Wr bl br := by
  have hTm : ∀ g, g < wr.heap.size → T g → mtb pl g := fun g hg e => by have := hT g hg e; unfold mtb; omega
  have hA : SdI w0 wn (trash wr pl) 1 M (X 0) := (h.sd 0 (by omega)).keep (t := 4) hk (fun g hg e => ⟨hTm g hg e, by have := hT g hg e; omega, by have := hT g hg e; omega⟩) (trash_same wr 4 pl) (by omega) (by omega) (Nat.le_refl _)
  have := h.call (k := 0) (A := X 0) (by omega) (Nat.le_refl _) hk (fun g hg e => .inr (.inr (hT g hg e))) (trash_same wr _ pl) hA rfl rfl
  rwa [upX_id] at this
theorem Py.below {w0 wr wn : World} {pl : Nat → Plc} {M bl br : Nat} {X : Nat → Sde} {hvl wvl : Value} {H : List Sz} {Wr Hr : List Sv} (h : Py w0 wr pl M X hvl Hr H wvl Wr bl br) (hb : Below wr.heap.size wr wn) : Py w0 wn (trash wr pl) M X hvl Hr H wvl Wr bl br := h.law (T := fun _ => False) (Kl.of_below hb) (fun _ _ e => e.elim)

end Go.Proofs.YtdfdaambfihjaaaDoor.L

namespace Go.Proofs.YtdfdaambfihjaaaDoor.L
open Go.RowKit
set_option linter.unusedVariables false
set_option linter.unusedSimpArgs false

/-! ## What the lists say -/
theorem Fk_cons (K : Int) (k : Nat) (x : Wa) (r : List Wa) : Fk K k (x :: r) = (if isK K k x = true then [x.y] else []) ++ Fk K k r := by
  unfold Fk
  by_cases h : isK K k x = true <;> simp [List.filter_cons, h]
theorem wcn_fk (K : Int) : ∀ ws, wcn K ws = (Fk K 0 ws).length + (Fk K 1 ws).length + (Fk K 2 ws).length
  | [] => rfl
  | x :: r => by
    have ih := wcn_fk K r
    have h3 := (kd_n x.y.s.typ).2
    unfold wcn at *
    rw [Fk_cons, Fk_cons, Fk_cons, List.length_append, List.length_append, List.length_append]
    by_cases e : x.p = K
    · rcases three h3 with h | h | h <;> simp [List.filter_cons, isK, e, h, ih] <;> omega
    · simp [List.filter_cons, isK, e, ih]
theorem wan_fk (K : Int) (ws : List Wa) : wan K ws = (Fk K 0 ws).length := by
  unfold wan Fk isK
  rw [List.length_map]
theorem sum_zero {f : Int → Nat} : ∀ {v : List Int}, (∀ K ∈ v, f K = 0) → (v.map f).sum = 0
  | [], _ => rfl
  | K :: r, h => by
    rw [List.map_cons, List.sum_cons, h K List.mem_cons_self, sum_zero (fun K hK => h K (List.mem_cons_of_mem _ hK))]
/-- Each that waits is one peer's. -/
theorem sum_one {f : Int → Nat} {K0 : Int} {a : Nat} (h0 : ∀ K, K ≠ K0 → f K = 0) (h1 : f K0 = a) : ∀ {v : List Int}, v.Nodup → (v.map f).sum = if K0 ∈ v then a else 0
  | [], _ => rfl
  | K :: r, hn => by
    rw [List.nodup_cons] at hn
    rw [List.map_cons, List.sum_cons, sum_one h0 h1 hn.2]
    by_cases e : K = K0
    · subst e
      rw [if_neg hn.1, if_pos List.mem_cons_self, h1]
      rfl
    · rw [h0 K e]
      have : K0 ∈ K :: r ↔ K0 ∈ r := by simp [Ne.symm e]
      simp only [this, Nat.zero_add]
theorem sum_add {f g : Int → Nat} : ∀ v : List Int, (v.map fun K => f K + g K).sum = (v.map f).sum + (v.map g).sum
  | [] => rfl
  | K :: r => by
    simp only [List.map_cons, List.sum_cons]
    rw [sum_add r]
    omega
theorem sum_congr {f g : Int → Nat} (h : ∀ K, f K = g K) (v : List Int) : (v.map f).sum = (v.map g).sum := by rw [funext h]
def cF (q : Wa → Bool) (K : Int) (ws : List Wa) : Nat := (ws.filter fun x => decide (x.p = K) && q x).length
theorem cF_cons (q : Wa → Bool) (K : Int) (x : Wa) (r : List Wa) : cF q K (x :: r) = (if x.p = K ∧ q x = true then 1 else 0) + cF q K r := by
  unfold cF
  by_cases e : x.p = K <;> by_cases h : q x = true <;> simp [List.filter_cons, e, h] <;> omega
theorem cF_sum (q : Wa → Bool) {v : List Int} (hn : v.Nodup) : ∀ ws : List Wa, (∀ x ∈ ws, x.p ∈ v) → (v.map fun K => cF q K ws).sum = (ws.filter q).length
  | [], _ => sum_zero (fun K _ => rfl)
  | x :: r, hv => by
    rw [sum_congr (fun K => cF_cons q K x r) v, sum_add, cF_sum q hn r (fun x hx => hv x (List.mem_cons_of_mem _ hx))]
    by_cases h : q x = true
    · rw [sum_one (K0 := x.p) (a := 1) (fun K hK => by simp [Ne.symm hK]) (by simp [h]) hn, if_pos (hv x List.mem_cons_self)]
      simp [List.filter_cons, h]
      omega
    · rw [sum_zero (fun K _ => by simp [h])]
      simp [List.filter_cons, h]
theorem cF_le (q : Wa → Bool) {v : List Int} (hn : v.Nodup) : ∀ ws : List Wa, (v.map fun K => cF q K ws).sum ≤ ws.length
  | [] => by rw [sum_zero (f := fun K => cF q K []) (fun K _ => rfl)]; exact Nat.le_refl _
  | x :: r => by
    rw [sum_congr (fun K => cF_cons q K x r) v, sum_add]
    have ih := cF_le q hn r
    have : (v.map fun K => if x.p = K ∧ q x = true then 1 else 0).sum ≤ 1 := by
      by_cases h : q x = true
      · rw [sum_one (K0 := x.p) (a := 1) (fun K hK => by simp [Ne.symm hK]) (by simp [h]) hn]
        split <;> omega
      · rw [sum_zero (fun K _ => by simp [h])]; omega
    rw [List.length_cons]
    omega
theorem wcn_cF (K : Int) (ws : List Wa) : wcn K ws = cF (fun _ => true) K ws := by unfold wcn cF; simp

/-! ## The two sides' lists -/
theorem len_rel {A : Sde} (hg : ∀ K i, i < 3 → Wt (A.S K) i = (A.G K i).map Sz.y) (hr : RelS A) (K : Int) {i : Nat} (hi : i < 3) : (Wt (A.S K) i).length = (Fk K i A.ws).length := by
  have h := congrArg List.length (hr K i hi)
  rw [List.length_map, List.length_map] at h
  rw [hg K i hi, List.length_map, h]
theorem wt_rel {A : Sde} (hg : ∀ K i, i < 3 → Wt (A.S K) i = (A.G K i).map Sz.y) (hr : RelS A) (K : Int) {i : Nat} (hi : i < 3) : (Wt (A.S K) i).map Sv.s = (Fk K i A.ws).map Sv.s := by
  rw [hg K i hi, List.map_map, ← hr K i hi]
  rfl
theorem cnt_rel {A : Sde} (hg : ∀ K i, i < 3 → Wt (A.S K) i = (A.G K i).map Sz.y) (hr : RelS A) (K : Int) : cnt (A.S K) = wcn K A.ws := by
  rw [wcn_fk]
  unfold cnt
  rw [len_rel hg hr K (by omega), len_rel hg hr K (by omega), len_rel hg hr K (by omega)]
theorem tot_rel {A : Sde} (hg : ∀ K i, i < 3 → Wt (A.S K) i = (A.G K i).map Sz.y) (hr : RelS A) : Tot A.S A.ws.length := fun v hn => by
  rw [sum_congr (fun K => (cnt_rel hg hr K).trans (wcn_cF K A.ws)) v]
  exact cF_le _ hn A.ws
/-- What is gone, of one kind. -/
theorem wgo_mnt {S1 S2 : Int} {all : Bool} {x : Wa} (h0 : 0 ≤ x.y.s.typ) : wgo S1 S2 all x = (decide (0 < kdn x.y.s.typ) && mnt S1 S2 all x.y.s) := by
  have h1 := (kd_typ (t := x.y.s.typ)).2
  have h2 := (kd_typ (t := x.y.s.typ)).1
  have h3 := (kd_n x.y.s.typ).2
  unfold wgo gon mnt isR
  rcases three h3 with e | e | e
  · have e4 := h2 e
    have e5 : ¬ x.y.s.typ ≤ 3 := by omega
    simp [e, e5]
  · have e4 := h1 e
    have e5 : ¬ x.y.s.typ ≤ 3 := by omega
    simp [e, e5]
  · simp [e, h0, Bool.or_comm]
theorem Fk_wkp {S1 S2 : Int} {all : Bool} {ws : List Wa} (h0 : ∀ x ∈ ws, 0 ≤ x.y.s.typ) (K : Int) {k : Nat} (hk : k < 3) : Fk K k (wkp S1 S2 all ws) = if k = 0 then Fk K 0 ws else (Fk K k ws).filter (fun y => !mnt S1 S2 all y.s) := by
  unfold Fk wkp
  rw [List.filter_filter, ]
  split
  · next e =>
    subst e
    congr 1
    refine List.filter_congr (fun x hx => ?_)
    by_cases h : isK K 0 x = true
    · have h' : x.p = K ∧ kdn x.y.s.typ = 0 := by simpa [isK] using h
      rw [wgo_mnt (h0 x hx), h'.2]
      simp [h]
    · simp [h]
  · next e =>
    rw [List.filter_map, List.filter_filter]
    congr 1
    refine List.filter_congr (fun x hx => ?_)
    by_cases h : isK K k x = true
    · have h' : x.p = K ∧ kdn x.y.s.typ = k := by simpa [isK] using h
      rw [wgo_mnt (h0 x hx), h'.2]
      have : 0 < k := by omega
      simp [h, this]
    · simp [h]
theorem kp_filter (S1 S2 : Int) (all : Bool) (l : List Sv) : kp S1 S2 all l = l.filter (fun y => !mnt S1 S2 all y.s) := rfl
theorem filt_len {α : Type} (p : α → Bool) : ∀ l : List α, l.length - (l.filter fun x => !p x).length = (l.filter p).length ∧ (l.filter fun x => !p x).length ≤ l.length
  | [] => ⟨rfl, Nat.le_refl _⟩
  | x :: r => by
    obtain ⟨h1, h2⟩ := filt_len p r
    cases h : p x <;> simp [List.filter_cons, h] <;> omega
theorem filt_s {p : Sg → Bool} {a b : List Sv} (h : a.map Sv.s = b.map Sv.s) : (a.filter fun y => p y.s).map Sv.s = (b.filter fun y => p y.s).map Sv.s := by
  have e : ∀ l : List Sv, (l.filter fun y => p y.s).map Sv.s = (l.map Sv.s).filter p := fun l => by rw [List.filter_map]; rfl
  rw [e, e, h]
theorem dpn_rel {A : Sde} (hg : ∀ K i, i < 3 → Wt (A.S K) i = (A.G K i).map Sz.y) (hr : RelS A) (h0 : ∀ x ∈ A.ws, 0 ≤ x.y.s.typ) (S1 S2 : Int) (all : Bool) (K : Int) : dpn (A.S K) S1 S2 all = cF (wgo S1 S2 all) K A.ws := by
  have key : ∀ i, i < 3 → (Wt (A.S K) i).length - (kp S1 S2 all (Wt (A.S K) i)).length = ((Fk K i A.ws).filter fun y => mnt S1 S2 all y.s).length := fun i hi => by
    rw [kp_filter, (filt_len (fun y : Sv => mnt S1 S2 all y.s) _).1]
    have := congrArg List.length (filt_s (p := mnt S1 S2 all) (wt_rel hg hr K hi))
    rw [List.length_map, List.length_map] at this
    exact this
  unfold dpn
  rw [key 1 (by omega), key 2 (by omega)]
  generalize A.ws = ws at h0
  clear key hg hr
  induction ws with
  | nil => rfl
  | cons x r ih =>
    have ih := ih (fun z hz => h0 z (List.mem_cons_of_mem _ hz))
    rw [cF_cons, Fk_cons, Fk_cons, List.filter_append, List.filter_append, List.length_append, List.length_append, ← ih, wgo_mnt (h0 x List.mem_cons_self)]
    have h3 := (kd_n x.y.s.typ).2
    by_cases e : x.p = K
    · rcases three h3 with h | h | h <;> cases hm : mnt S1 S2 all x.y.s <;> simp [isK, e, h, hm] <;> omega
    · simp [isK, e]
/-- Both tell the same number. -/
theorem drop_rel {A : Sde} (hg : ∀ K i, i < 3 → Wt (A.S K) i = (A.G K i).map Sz.y) (hr : RelS A) (h0 : ∀ x ∈ A.ws, 0 ≤ x.y.s.typ) (S1 S2 : Int) (all : Bool) {v : List Int} (hn : v.Nodup) (hc : ∀ K, K ∉ v → A.S K = none) : dsum A.S S1 S2 all v = A.ws.length - (wkp S1 S2 all A.ws).length := by
  have hv : ∀ x ∈ A.ws, x.p ∈ v := fun x hx => by
    apply Classical.byContradiction
    intro hx2
    have h1 := hc _ hx2
    have h3 := (kd_n x.y.s.typ).2
    have h2 := len_rel hg hr x.p h3
    rw [h1] at h2
    have h4 : x.y ∈ Fk x.p (kdn x.y.s.typ) A.ws := List.mem_map.mpr ⟨x, List.mem_filter.mpr ⟨hx, by simp [isK]⟩, rfl⟩
    rw [List.eq_nil_of_length_eq_zero h2.symm] at h4
    cases h4
  unfold dsum wkp
  rw [(filt_len (wgo S1 S2 all) A.ws).1, sum_congr (fun K => dpn_rel hg hr h0 S1 S2 all K) v, cF_sum _ hn A.ws hv]

end Go.Proofs.YtdfdaambfihjaaaDoor.L

namespace Go.Proofs.YtdfdaambfihjaaaDoor.L
open Go.RowKit
set_option linter.unusedVariables false
set_option linter.unusedSimpArgs false

theorem prt_typ {s : Sg} {hx tx : List Xr} (h : (prt s hx tx).1 = 0) : 0 ≤ s.typ := by
  unfold prt at h
  split at h
  · cases h
  · next h2 =>
    by_cases e : 0 ≤ s.typ
    · exact e
    · exfalso
      have : shp s.typ = 0 := by unfold shp; simp; omega
      rw [this] at h2
      exact h2 (by decide)
/-- An append of a row of the call's own. -/
theorem wpl_row {P : Program} {ops : Array Oper} {rest : List Oper} {o : Oper} {a : Act} {Q : Exit → Act → World → Prop} (w : World) (hg : o.guard = none) (s x : Operand) (t : TypeId) (hop : o.op = Op.call { callee := Callee.builtin Builtin.append, args := #[s, x], argTypes := #[t, t] })
    (base : Nat) (e : TypeId) (i : TypeInfo) (z : Value) (size bytes : Nat) (ht : P.underlying t = some (.slice e)) (hi : P.info? e = some i) (hz : i.zero = some z) (hsize : i.size = size) (hby : i.bytes = bytes) (hzs : z.cells.size = size) (hsz : 0 < size)
    (v : Value) (n : Nat) (xs : List Value) (hs : a.eval s = v) (hown : w.ownsRow base e size v n xs) (v2 : Value) (m : Nat) (news : List Value) (hx : a.eval x = v2) (hown2 : w.ownsRow 0 e size v2 m news) (h1 : ∀ u ∈ news, u.oneCell' = true)
    (h63 : n + m ≤ maxLen) (hbytes : (n + m) * bytes ≤ 140737488355328) (hbase : base ≤ w.heap.size)
    (hK : ∀ v' w', w'.ownsRow base e size v' (n + m) (xs ++ news) → w.grownBy w' v.ownBlock → (v'.ownBlock = v.ownBlock ∨ v'.ownBlock = some w.heap.size) → wpList P ops Q rest (a.put o.dst v') w') : wpList P ops Q (o :: rest) a w := by
  have hlen : news.length = m * size := hown2.1
  obtain ⟨_, ⟨rfl, rfl⟩ | ⟨g, cap, cur, rfl, _⟩⟩ := id hown2
  · have hn0 : news = [] := List.eq_nil_of_length_eq_zero (by rw [hlen]; omega)
    subst hn0
    refine wpList_append_own_none hg s x t hop base e i size ht hi v n xs hs hown hx ?_
    exact hK v w (by simpa using hown) ⟨rfl, rfl, rfl, Nat.le_refl _, fun _ _ _ => rfl⟩ (.inl rfl)
  · refine wpList_append_own_at w hg s x t hop base e i z size bytes ht hi hz hsize hby hzs hsz v n xs hs hown ⟨g, 0, none⟩ m cap news hx hlen (hown2.cells (g := g) rfl) h1 h63 hbytes hbase ?_
    intro v' w' r2 r3 _ r5
    exact hK v' w' r2 r3 r5
theorem hfull (V : World) (p m : Nat) (o : Lo) (M : Nat) (h : Lw V p m 1073741824 3 o M) (hM : M ≤ 2097153) : ¬ (1073741824 : Int) ≤ ((Wt o 0).length : Nat) := by have := Wt_le h 0 (by omega); omega

end Go.Proofs.YtdfdaambfihjaaaDoor.L
