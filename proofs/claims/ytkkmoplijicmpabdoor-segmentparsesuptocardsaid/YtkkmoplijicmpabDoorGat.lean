import Derived.Test.YtkkmoplijicmpabDoorItr
namespace Go.Proofs.YtkkmoplijicmpabDoor.C
open Go.RowKit Go.Shelf
attribute [local go_sem] Oper.semAt_some

/-- What gather's loop keeps: the box of the set (S), that of had (Hb), that of the span (Sb); the row lies from N on. -/
structure GI (S Hb Sb N : Nat) (w : World) (f t : Int) (had : Bool) (pre : List Pz) (W : World) : Prop where
  row : ∃ v, Boxed W S 26 v ∧ SOwn W N v (pick had pre)
  hb : Boxed W Hb 4 (.bool had)
  sb : W.heap[Sb]? = some (.cells #[.int .i64 f, .int .i64 t] 37 (0, 0))
  low : Below w.heap.size w W
  big : N ≤ W.heap.size

theorem cells_keep {X Y : World} {row : Option Nat} {B k : Nat} {cs : Array Value} {ty : TypeId} {fr : Nat × Nat} (h : X.heap[k]? = some (.cells cs ty fr)) (hg : X.grownBy Y row) (hr : ∀ r, row = some r → B ≤ r ∧ ∃ o : Obj, X.heap[r]? = some o ∧ o.isCells = false) : Y.heap[k]? = some (.cells cs ty fr) :=
  (hg.block k (Array.getElem?_eq_some_iff.1 h).1 (fun e => by obtain ⟨_, o, ho, hc⟩ := hr k e.symm; rw [h] at ho; cases ho; cases hc)).trans h
theorem SOwn.keepO {X Y : World} {row : Option Nat} {B base : Nat} {v : Value} {l : List Sp} (h : SOwn X base v l) (hg : X.grownBy Y row) (hr : ∀ r, row = some r → B ≤ r ∧ ∃ o : Obj, X.heap[r]? = some o ∧ o.isCells = false) : SOwn Y base v l := by
  refine ⟨h.1, ?_⟩
  rcases h.2 with hn | ⟨g, cap, cur, hv, h1, h2, h3⟩
  · exact .inl hn
  · exact .inr ⟨g, cap, cur, hv, h1, cells_keep h2 hg hr, h3⟩
theorem GI.own {S Hb Sb N B : Nat} {w : World} {f t : Int} {had : Bool} (hB : w.heap.size ≤ B) : OwnFrom B (GI S Hb Sb N w f t had) := fun pre X Y row hs hg hr => by
  obtain ⟨v, h1, h2⟩ := hs.row
  exact ⟨⟨v, cells_keep h1 hg hr, h2.keepO hg hr⟩, cells_keep hs.hb hg hr, cells_keep hs.sb hg hr, ownFrom_below (β := Unit) (Nat.le_refl _) hB () X Y row hs.low hg hr, Nat.le_trans hs.big hg.size⟩
theorem GI.alloc {S Hb Sb N : Nat} {w : World} {f t : Int} {had : Bool} {pre : List Pz} {W : World} (h : GI S Hb Sb N w f t had pre W) (o : Obj) : GI S Hb Sb N w f t had pre (W.alloc o) := by
  obtain ⟨v, h1, h2⟩ := h.row
  exact ⟨⟨v, h1.alloc o, World.ownsRow.alloc h2 o⟩, h.hb.alloc o, (Below.heap_alloc W o _ (Array.getElem?_eq_some_iff.1 h.sb).1).trans h.sb, h.low.alloc h.low.size o, by have := h.big; simp; omega⟩
theorem kps_b {n₀ b : Nat} {w : World} (hn : n₀ ≤ w.heap.size) (hb : b < w.heap.size) (W : World) (l : Nat) (o o' : Obj) (hl : w.heap.size ≤ l) (h : W.heap[l]? = some o) (h1 : o.isCells = false) (h2 : o.isWalk = false) : Kps n₀ b W (W.putObj l o') :=
  ⟨belowK_b hn W l o o' hl h h1 h2, World.putObj_heap_other (by omega)⟩
theorem pick_hit (had : Bool) (pre : List Pz) (s : Sp) : pick had (pre ++ [(s, had)]) = pick had pre ++ [s] := by rw [pick_append]; simp [pick]
theorem pick_miss (had b : Bool) (pre : List Pz) (s : Sp) (h : b ≠ had) : pick had (pre ++ [(s, b)]) = pick had pre := by rw [pick_append]; simp [pick, h]
theorem pick_len (had : Bool) : ∀ l : List Pz, (pick had l).length ≤ l.length
  | [] => by simp [pick]
  | x :: r => by have := pick_len had r; simp only [pick]; split <;> simp <;> omega

/-- What is told of a list that may be too long. -/
def BR (U u : List Sp) (er : Int) : Prop := (U.length ≤ 2000 ∧ er = 0 ∧ u = U) ∨ (2000 < U.length ∧ er = 3 ∧ u = [])
def GPost (U : List Sp) (w : World) (e : Ending) (w' : World) : Prop := ∃ v u er, e = .returned (.tuple #[v, .int .i64 er]) ∧ SOwn w' w.heap.size v u ∧ BR U u er ∧ Below w.heap.size w w'

/-- A span is put to the row. -/
theorem GI.put {S Hb Sb N : Nat} {w W w1 : World} {f t : Int} {had : Bool} {pre : List Pz} {v v' : Value} {s : Sp} {tmp : Obj} (h : GI S Hb Sb N w f t had pre W) (hS : S < N) (hH : Hb < N) (hSb : Sb < N) (hSH : Hb ≠ S) (hSS : Sb ≠ S) (hw : w.heap.size ≤ S) (hv : Boxed W S 26 v) (hrow : SOwn W N v (pick had pre))
    (hown : w1.ownsRow N 37 2 v' ((pick had pre).length + 1) ((pick had pre).flatMap spc ++ [.int .i64 s.1, .int .i64 s.2])) (hg : (W.alloc tmp).grownBy w1 v.ownBlock) :
    Boxed w1 S 26 v ∧ KeepsOthers W (w1.setCell ⟨S, 0, none⟩ v') ∧ Kps w.heap.size Sb W (w1.setCell ⟨S, 0, none⟩ v') ∧ GI S Hb Sb N w f t had (pre ++ [(s, had)]) (w1.setCell ⟨S, 0, none⟩ v') := by
  have hbN : Below N W w1 := ((Below.refl N W).alloc h.big tmp).grown hg (by have := h.big; simp; omega) (fun k hk => (hrow.lt k hk).1)
  have b1 : Boxed w1 S 26 v := (hbN.block S hS).trans hv
  have b2 : Boxed w1 Hb 4 (.bool had) := (hbN.block Hb hH).trans h.hb
  have b3 : w1.heap[Sb]? = some (.cells #[.int .i64 f, .int .i64 t] 37 (0, 0)) := (hbN.block Sb hSb).trans h.sb
  have b3' : (w1.setCell ⟨S, 0, none⟩ v').heap[Sb]? = some (.cells #[.int .i64 f, .int .i64 t] 37 (0, 0)) := (Below.heap_setCell _ _ _ _ hSS).trans b3
  have hlow : Below w.heap.size W (w1.setCell ⟨S, 0, none⟩ v') := (hbN.mono (by omega)).setCell (p := ⟨S, 0, none⟩) hw v'
  have hnb : ∀ k, v'.ownBlock = some k → N ≤ k := fun k hk => (World.ownsRow.lt hown k hk).1
  refine ⟨b1, ?_, ⟨hlow, b3'.trans h.sb.symm⟩, ⟨⟨v', b1.set v', ?_⟩, b2.other hSH v', b3', h.low.trans hlow, Nat.le_trans h.big (Nat.le_trans hbN.size (by simp))⟩⟩
  · refine ((KeepsOthers.alloc W tmp).trans (KeepsOthers.of_grownBy hg fun j o ej hj => ?_)).trans (KeepsOthers.setCell _ _ _)
    rcases (World.ownsRow.alloc hrow tmp).2 with ⟨rfl, _⟩ | ⟨g, cap, cur, rfl, _, hgb, _⟩
    · simp [Value.ownBlock] at ej
    · obtain rfl : g = j := by simpa [Value.ownBlock] using ej
      rw [hgb] at hj; cases hj; rfl
  · unfold SOwn
    rw [pick_hit, List.flatMap_append, List.length_append]
    exact hown.kept (grownBy_setCell' w1 S v') (by
      cases hv : v'.ownBlock with
      | none => left; rfl
      | some g => right; intro e; simp only [Option.some.injEq] at e; have := hnb g hv; omega)

end Go.Proofs.YtkkmoplijicmpabDoor.C

namespace Go.Proofs.YtkkmoplijicmpabDoor.C
open Go.RowKit

/-- What Gaps (had: false) and Within (had: true) answer. -/
def GR (had : Bool) (l : List Sp) (s : Sp) (u : List Sp) (er : Int) : Prop := (¬ (IsSet l ∧ Asked s) ∧ er = 30 ∧ u = []) ∨ (IsSet l ∧ Asked s ∧ BR (pick had (pc s.2 s.1 l)) u er)
theorem BR.uniq {U u u' : List Sp} {er er' : Int} (h : BR U u er) (h' : BR U u' er') : u = u' ∧ er = er' := by
  rcases h with ⟨a, b, c⟩ | ⟨a, b, c⟩ <;> rcases h' with ⟨d, e, f⟩ | ⟨d, e, f⟩
  · exact ⟨by rw [c, f], by omega⟩
  · omega
  · omega
  · exact ⟨by rw [c, f], by omega⟩
theorem GR.uniq {had : Bool} {l : List Sp} {s : Sp} {u u' : List Sp} {er er' : Int} (h : GR had l s u er) (h' : GR had l s u' er') : u = u' ∧ er = er' := by
  rcases h with ⟨h1, h2, h3⟩ | ⟨h1, h2, h3⟩ <;> rcases h' with ⟨k1, k2, k3⟩ | ⟨k1, k2, k3⟩
  · exact ⟨by rw [h3, k3], by omega⟩
  · exact absurd ⟨k1, k2⟩ h1
  · exact absurd ⟨h1, h2⟩ k1
  · exact h3.uniq k3
theorem GR.len {had : Bool} {l : List Sp} {s : Sp} {u : List Sp} {er : Int} (h : GR had l s u er) : u.length ≤ 2000 := by
  rcases h with ⟨_, _, rfl⟩ | ⟨_, _, ⟨h, _, rfl⟩ | ⟨_, _, rfl⟩⟩
  · simp
  · exact h
  · simp
theorem GR.errs {had : Bool} {l : List Sp} {s : Sp} {u : List Sp} {er : Int} (h : GR had l s u er) : er = 0 ∨ er = 3 ∨ er = 30 := by
  rcases h with ⟨_, h, _⟩ | ⟨_, _, ⟨_, h, _⟩ | ⟨_, h, _⟩⟩ <;> omega
theorem GR.within {l : List Sp} {s : Sp} {u : List Sp} {er : Int} (h : GR true l s u er) (hl : IsSet l) (ha : Asked s) : er = 0 ∧ u = wth l s := by
  rcases h with ⟨h1, _⟩ | ⟨_, _, ⟨_, h2, h3⟩ | ⟨h1, _⟩⟩
  · exact absurd ⟨hl, ha⟩ h1
  · exact ⟨h2, h3⟩
  · have := len_true (hi := s.2) (l := l) (p := s.1); have := hl.1; omega
theorem GR.gaps {l : List Sp} {s : Sp} {u : List Sp} {er : Int} (h : GR false l s u er) (hl : IsSet l) (ha : Asked s) : BR (gps l s) u er := by
  rcases h with ⟨h1, _⟩ | ⟨_, _, h⟩
  · exact absurd ⟨hl, ha⟩ h1
  · exact h

def GRPost (had : Bool) (l : List Sp) (s : Sp) (w : World) (e : Ending) (w' : World) : Prop := ∃ v u er, e = .returned (.tuple #[v, .int .i64 er]) ∧ SOwn w' w.heap.size v u ∧ GR had l s u er ∧ Below w.heap.size w w'

theorem below_box (w : World) (f t : Int) : Below w.heap.size w (w.alloc (.cells #[.int .i64 f, .int .i64 t] 37)) := (Below.refl _ _).alloc (Nat.le_refl _) _

/-- Covers. -/
def cvB (l : List Sp) (s : Sp) : Bool := setB l && (askB s && decide (gps l s = []))
theorem cv_of {l : List Sp} {s : Sp} {u : List Sp} {er : Int} (h : GR false l s u er) : cvB l s = (decide (er = 0) && decide (u.length = 0)) := by
  unfold cvB
  by_cases hq : IsSet l ∧ Asked s
  · rw [setB_iff.mpr hq.1, askB_iff.mpr hq.2]
    rcases h.gaps hq.1 hq.2 with ⟨h1, rfl, rfl⟩ | ⟨h1, rfl, rfl⟩
    · simp [List.length_eq_zero_iff]
    · have : gps l s ≠ [] := fun e => by rw [e] at h1; simp at h1
      simp [this]
  · rcases h with ⟨_, rfl, _⟩ | ⟨h1, h2, _⟩
    · have : ¬ (setB l = true ∧ askB s = true) := fun e => hq ⟨setB_iff.mp e.1, askB_iff.mp e.2⟩
      cases hs : setB l <;> cases ha : askB s <;> simp_all
    · exact absurd ⟨h1, h2⟩ hq

theorem ls_two (w : World) (a b c d : Int) : Ls (w.alloc (.cells #[.int .i64 a, .int .i64 b, .int .i64 c, .int .i64 d] 37)) (.slice (some ⟨w.heap.size, 0, none⟩) 2 2) [(a, b), (c, d)] := by
  refine ⟨⟨_, 2, rfl, .inr ⟨w.heap.size, 0, rfl, fun i p hp => ?_⟩, by simp, by omega⟩, by simp⟩
  match i, hp with
  | 0, hp => simp at hp; subst hp; exact ⟨by simp, by simp⟩
  | 1, hp => simp at hp; subst hp; exact ⟨by simp, by simp⟩
  | i + 2, hp => simp at hp

theorem awake_ar : AR [(0, 3), (5, 9)] (3, 5) [(0, 9)] 2 0 := by
  refine ⟨.inr ⟨⟨by simp, by simp [Rt]⟩, ⟨by simp, by simp [Rt]⟩, [(0, 9)], ⟨by simp [Rt], fun x => ?_, by simp⟩, .inl ⟨by simp, rfl, rfl⟩⟩, .inl ⟨rfl, by simp [siz]⟩⟩
  apply Bool.eq_iff_iff.mpr
  simp [has, inn]
  omega

end Go.Proofs.YtkkmoplijicmpabDoor.C
