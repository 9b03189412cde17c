import Derived.Test.YtcfodcioeefbeaaDoorXpE
import Derived.OwnWalk
namespace Go.Proofs.YtcfodcioeefbeaaDoor.X
open Go.RowKit Go.Maps
set_option linter.unusedVariables false
set_option linter.unusedSimpArgs false

theorem seg_info : (Tryd.prog.info? 45).map (fun i => (i.zero, i.size, i.bytes)) = some (some (.agg #[.int .i64 0, .int .i64 0, .int .i64 0, .slice none 0 0, .slice none 0 0, .int .i64 0, .int .i64 0, .slice none 0 0, .int .i64 0, .int .i64 0, .int .i64 0, .int .i64 0, .slice none 0 0, .int .i64 0]), 14, 176) := by kernel_rfl
theorem own_sl {w : World} {b s n : Nat} {e : TypeId} {v : Value} {xs : List Value} (h : w.ownsRow b e s v n xs) : ∃ a c, v = .slice a n c := by
  obtain ⟨_, ⟨rfl, rfl⟩ | ⟨g, cap, cur, rfl, _⟩⟩ := h
  · exact ⟨none, 0, rfl⟩
  · exact ⟨_, _, rfl⟩
/-- The greatest check number behind pieces. -/
def lstC (c : Int) : List Pc → Int
  | [] => c
  | p :: r => lstC (if 0 < p.chk then p.chk else c) r
theorem lstC_app (c : Int) (l : List Pc) (p : Pc) : lstC c (l ++ [p]) = if 0 < p.chk then p.chk else lstC c l := by
  induction l generalizing c with
  | nil => rfl
  | cons x l ih => exact ih _
def ckp (l : List Pc) : List Pc := l.filter fun p => decide (0 < p.chk)
theorem ckp_app (l : List Pc) (p : Pc) : ckp (l ++ [p]) = ckp l ++ (if 0 < p.chk then [p] else []) := by
  unfold ckp
  rw [List.filter_append]
  congr 1
  by_cases h : 0 < p.chk
  · rw [if_pos h, List.filter_cons_of_pos (by simpa using h), List.filter_nil]
  · rw [if_neg h, List.filter_cons_of_neg (by simpa using h), List.filter_nil]
theorem take_snoc {α : Type} {l : List α} {i : Nat} {x : α} (h : l[i]? = some x) : l.take (i + 1) = l.take i ++ [x] := by
  rw [List.take_add_one, h]
  rfl
/-- What put has come to behind so many pieces. -/
def PtI (w : World) (e m rm : Nat) (s : Xs) (O : List Oc) (k : Pk) (zs : List Int) (P : List Pc) (i : Nat) (lv : Value) (W : World) : Prop :=
  ∃ Y N c', Y.map Prod.fst = (P.take i).map (fun p => (mk k p zs).1) ∧ Sgs W w.heap.size lv Y ∧ Xm W e m rm c' { s with chk := lstC s.chk (P.take i) } (O ++ N) ∧ N.map Oc.p = ckp (P.take i) ∧ (∀ o ∈ N, o.wt = true ∧ o.ag = 0 ∧ w.heap.size ≤ o.x) ∧ Kl (XF e m O) w W
/-- Numbers that are new. -/
def Frs (O : List Oc) (P : List Pc) : Prop := (O.map (fun o => o.p.chk) ++ (ckp P).map Pc.chk).Nodup
theorem Sgs.keep {w w' : World} {lo : Nat} {v : Value} {Y : List (Sg × Value)} (h : Sgs w lo v Y) (hv : ∀ g, v.ownBlock = some g → w'.heap[g]? = w.heap[g]?) (hd : ∀ y ∈ Y, ∀ g, y.2.ownBlock = some g → w'.heap[g]? = w.heap[g]?) : Sgs w' lo v Y :=
  ⟨own_at h.row hv, fun y hy => own_at (h.el y hy) (hd y hy)⟩
theorem Sgs.below {w w' : World} {lo : Nat} {v : Value} {Y : List (Sg × Value)} (h : Sgs w lo v Y) (hb : Below w.heap.size w w') : Sgs w' lo v Y :=
  h.keep (fun g hg => hb.block g (World.ownsRow.lt h.row g hg).2) (fun y hy g hg => hb.block g (World.ownsRow.lt (h.el y hy) g hg).2)
/-- Another kind of block may change. -/
theorem Sgs.kl {w w' : World} {lo : Nat} {v : Value} {Y : List (Sg × Value)} {x : Nat} {cs : Array Value} {t : TypeId} (h : Sgs w lo v Y) (hk : Kl (fun g => g = x) w w') (hx : w.heap[x]? = some (.cells cs t (0, 0))) (h1 : 45 ≠ t) (h2 : 5 ≠ t) : Sgs w' lo v Y :=
  h.keep (fun g hg => hk.block g (World.ownsRow.lt h.row g hg).2 (fun q => apart_of h.row hg hx h1 q)) (fun y hy g hg => hk.block g (World.ownsRow.lt (h.el y hy) g hg).2 (fun q => apart_of (h.el y hy) hg hx h2 q))
theorem Sgs.klm {w w' : World} {lo : Nat} {v : Value} {Y : List (Sg × Value)} {x : Nat} {es : Array MapEntry} {c : Nat} (h : Sgs w lo v Y) (hk : Kl (fun g => g = x) w w') (hx : w.heap[x]? = some (.map es c)) : Sgs w' lo v Y := by
  have ap : ∀ {b n s : Nat} {e : TypeId} {v : Value} {xs : List Value} {g : Nat}, w.ownsRow b e s v n xs → v.ownBlock = some g → g ≠ x := fun {b n s e v xs g} hr hg q => by
    obtain ⟨_, h | ⟨g', cap, cur, rfl, _, hh, _⟩⟩ := hr
    · rw [h.1] at hg; cases hg
    · simp only [Value.ownBlock, Option.some.injEq] at hg
      subst hg
      rw [q, hx] at hh
      cases hh
  exact h.keep (fun g hg => hk.block g (World.ownsRow.lt h.row g hg).2 (fun q => ap h.row hg q)) (fun y hy g hg => hk.block g (World.ownsRow.lt (h.el y hy) g hg).2 (fun q => ap (h.el y hy) hg q))
/-- A new checkpoint. -/
theorem Xm.push {w W V : World} {e m rm c : Nat} {s : Xs} {O : List Oc} (h : Xm w e m rm c s O) (p : Pc) (hp : ∀ o ∈ O, o.p.chk ≠ p.chk) (hV : V = w.alloc (.cells (ckC p true 0) 69)) (hW : W = setO V m (.map ((O.map Oc.en ++ [(⟨p.chk, w.heap.size, c⟩ : En)]).map me).toArray (c + 1))) :
    Xm W e m rm (c + 1) s (O ++ [⟨c, w.heap.size, p, true, 0⟩]) ∧ Kl (fun g => g = m) V W := by
  have hb : Below w.heap.size w V := by rw [hV]; exact (Below.refl _ _).alloc (Nat.le_refl _) _
  have h1 := h.below hb
  have g1 : V.heap[w.heap.size]? = some (.cells (ckC p true 0) 69) := by rw [hV]; exact heap_alloc_new' w _
  have hk : Kl (fun g => g = m) V W := by rw [hW]; exact (Kl.refl _ _).grown (setO_grown _ _ _) (fun k q => .inl (Option.some.inj q).symm)
  have ho := h1.off
  have hm := h.lt m (.inr (.inl rfl))
  have hP := h1.mp.push p.chk w.heap.size (fun en hen => by obtain ⟨o, ho', rfl⟩ := List.mem_map.mp hen; exact hp o ho')
  rw [← hW] at hP
  refine ⟨⟨(hk.block e (h1.lt e (.inl rfl)) ho.1).trans h1.box, by rw [List.map_append]; exact hP, fun o hoo => ?_, ?_⟩, hk⟩
  · rcases List.mem_append.mp hoo with q | q
    · exact (hk.block o.x (h1.lt o.x (.inr (.inr (List.mem_map.mpr ⟨o, q, rfl⟩)))) (ho.2 o q).2).trans (h1.ck o q)
    · rw [List.mem_singleton.mp q]
      exact (hk.block w.heap.size (Array.getElem?_eq_some_iff.1 g1).1 (by omega)).trans g1
  · rw [List.map_append, List.nodup_append]
    refine ⟨h.nd, by simp, fun a ha b hb e1 => ?_⟩
    simp only [List.map_cons, List.map_nil, List.mem_singleton] at hb
    obtain ⟨o, ho', rfl⟩ := List.mem_map.mp ha
    have := h.lt o.x (.inr (.inr (List.mem_map.mpr ⟨o, ho', rfl⟩)))
    omega
end Go.Proofs.YtcfodcioeefbeaaDoor.X
