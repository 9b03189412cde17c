import Derived.Test.YtillgoegiplmkaaGreatDoorTbEb
import Derived.Lib.OwnBridge
import Derived.Sort.OwnSortedInts
import Derived.Shelf.Slices.In.SortNone
namespace Go.Proofs.YtillgoegiplmkaaGreatDoor.B
open C
open Go.RowKit Go.Maps Go.Shelf Go.Sort
set_option linter.unusedVariables false
set_option linter.unusedSimpArgs false

theorem ssc_len : ∀ ys : List Ss, (ys.flatMap ssc).length = ys.length * 2
  | [] => rfl
  | y :: r => by
    simp only [List.flatMap_cons, List.length_append, List.length_cons, ssc_len r]
    show 2 + r.length * 2 = (r.length + 1) * 2
    omega
theorem ssc_get : ∀ (ys : List Ss) (j : Nat), j < ys.length * 2 → (ys.flatMap ssc)[j]? = some ((ssc ys.toArray[j / 2]!)[j % 2]!)
  | [], j, h => by simp at h
  | y :: r, j, h => by
    simp only [List.flatMap_cons]
    by_cases hj : j < 2
    · rw [List.getElem?_append_left (by simpa [ssc] using hj)]
      rcases (show j = 0 ∨ j = 1 by omega) with rfl | rfl <;> simp [ssc]
    · rw [List.getElem?_append_right (by simp [ssc]; omega)]
      have e := ssc_get r (j - 2) (by simp at h; omega)
      rw [show j - (ssc y).length = j - 2 by simp [ssc], e]
      have h1 : j / 2 = (j - 2) / 2 + 1 := by omega
      have h2 : j % 2 = (j - 2) % 2 := by omega
      rw [h1, h2]
      have h3 : (j - 2) / 2 < r.length := by simp at h; omega
      simp [h3]
theorem holdsK_own {w : World} {base g n cap : Nat} {ys : List Ss} (h : w.ownsRow base 31 2 (.slice (some ⟨g, 0, none⟩) n cap) n (ys.flatMap ssc)) : HoldsK ssc 2 w g 0 ys.toArray := by
  have hl : ys.length = n := by have := h.1; rw [ssc_len] at this; omega
  intro j hj
  have hj2 : j < ys.length * 2 := by simpa using hj
  have hc : n ≤ cap := by
    rcases h.2 with ⟨e0, _⟩ | ⟨g', cap', cur, e0, hb, hg, hn, hm, hs, ht⟩
    · cases e0
    · cases e0; exact hn
  rw [get_flatK ssc 2 ys.toArray j (by simpa using hj2)]
  simp only [Nat.zero_add, id]
  exact ⟨own_cell h (ssc_get ys j hj2), (own_room h (j := j) (by omega)).2⟩
theorem own_sortK {w : World} {base g n cap m : Nat} {os : Array Obj} {ys zs : List Ss} (h : w.ownsRow base 31 2 (.slice (some ⟨g, 0, none⟩) n cap) n (ys.flatMap ssc)) (hz : zs.length = ys.length) :
    (sortWorldK ssc 2 w g 0 m zs.toArray os).ownsRow base 31 2 (.slice (some ⟨g, 0, none⟩) n cap) n (zs.flatMap ssc) ∧ w.grownBy (sortWorldK ssc 2 w g 0 m zs.toArray os) (some g) := by
  have hl : ys.length = n := by have := h.1; rw [ssc_len] at this; omega
  rcases h.2 with ⟨e0, _⟩ | ⟨g', cap', cur, e0, hb, hg, hn, hm, hs, ht⟩
  · cases e0
  · cases e0
    have hgl : g < w.heap.size := (Array.getElem?_eq_some_iff.1 hg).1
    have hgz : (zs.flatMap ssc).length = n * 2 := by rw [ssc_len]; omega
    refine ⟨⟨hgz, .inr ⟨g, cap, putCells id 0 (flatK ssc 2 zs.toArray) cur, rfl, hb, ?_, hn, hm, by simpa [putCells] using hs, ?_⟩⟩, ⟨rfl, rfl, rfl, by simp [sortWorldK, putRowK, putRow, mapBlock, Sort.ahead], fun k hk hne => ?_⟩⟩
    · unfold sortWorldK
      rw [heap_grow_old _ _ (by simpa [putRowK, putRow, mapBlock, Sort.ahead] using hgl)]
      simp [putRowK, putRow, mapBlock, Sort.ahead, Array.getElem?_modify, hg, onCells]
    · apply List.ext_getElem?
      intro j
      rw [List.getElem?_take, Array.getElem?_toList]
      by_cases hj : j < n * 2
      · have hjc : j < cur.size := by omega
        simp only [if_pos hj, putCells, Array.getElem?_mapIdx, Array.getElem?_eq_getElem hjc, Option.map_some]
        rw [if_pos (by simp; omega), ssc_get zs j (by omega)]
        have := get_flatK ssc 2 zs.toArray j (by simp; omega)
        simp only [Nat.sub_zero, id]
        rw [this]
      · rw [if_neg hj, List.getElem?_eq_none (by omega)]
    · unfold sortWorldK
      rw [heap_grow_old _ _ (by simpa [putRowK, putRow, mapBlock, Sort.ahead] using hk)]
      have : g ≠ k := fun e => hne (by rw [e])
      simp [putRowK, putRow, mapBlock, Sort.ahead, Array.getElem?_modify, this]
/-- slices.SortFunc of a row of sessions of one's own, at a comparison by origin, then number. -/
theorem sortF8_any {w : World} {base : Nat} {v : Value} {ys : List Ss} {L : List Ss} (gc : Nat) (h : RoS w base v ys) (hm : ys.length ≤ 4398046511104) (eg : ∀ args w, (callFunc gc args).run Tryz.prog w = .ok (.enter gc args) w)
    (hc : ∀ x y W, Calls Tryz.prog gc #[.agg #[.int .i64 x.1, .int .i64 x.2], .agg #[.int .i64 y.1, .int .i64 y.2]] W fun e w' => e = .returned (.int .i64 (cmpS x y)) ∧ ∃ q os', w' = grow (W.drewN q) os')
    (hL : L.Pairwise (fun a b => ltS a b = true)) (hp : ys.Perm L) :
    Calls Tryz.prog 145 #[v, .func (.func gc) #[] #[]] w fun e w' => e = .returned (.tuple #[]) ∧ RoS w' base v L ∧ w.grownBy w' v.ownBlock := by
  rcases h.2 with ⟨rfl, e1⟩ | ⟨g, cap, cur, rfl, hb, hg, hn, hmx, hs, ht⟩
  · have e2 : ys.length = 0 := by have h1 := h.1; rw [e1] at h1; simp at h1; omega
    have e3 : ys = [] := List.eq_nil_of_length_eq_zero e2
    subst e3
    have e4 : L = [] := List.nil_perm.mp hp
    subst e4
    exact (AnyF.slices_SortFunc_none (P := Tryz.prog) (ρ := laysSortF_ren) { laysSortF with } none 0 (.func (.func gc) #[] #[]) w).mono fun e w' ⟨q1, q2⟩ => ⟨q1, by rw [q2]; exact h, by rw [q2]; exact World.grownBy.refl _ _⟩
  · have hH := holdsK_own h
    have hgl : g < w.heap.size := (Array.getElem?_eq_some_iff.1 hg).1
    have hcon := AnyQ.slices_SortFunc_total laysSortF 2 Tryz.isAgg31 Tryz.sizeOf31 ssc (fun _ => rfl) (fun x v hv => by simp [ssc] at hv; rcases hv with rfl | rfl <;> rfl) cmpS swo_cmpS gc #[] g 0 cap ys.toArray w eg (fun _ _ _ _ x y => hc x y _) hH hgl (by simp; omega) tot_cmpS
    have hsz : (ys.toArray).size = ys.length := by simp
    rw [hsz] at hcon
    refine hcon.mono fun e w' q => ?_
    obtain ⟨q1, n, os, q2⟩ := q
    have e5 : (ys.toArray.toList.mergeSort fun x y => !(ltOf cmpS) y x) = L := by
      have : (fun x y : Ss => !(ltOf cmpS) y x) = fun x y => !ltS y x := by funext x y; rw [lt_cmpS]
      rw [this]
      exact sorted_keys ordS hL hp
    rw [e5] at q2
    have hpl := hp.length_eq
    obtain ⟨r1, r2⟩ := own_sortK (m := n) (os := os) (zs := L) h hpl.symm
    refine ⟨q1, ?_, ?_⟩
    · rw [q2]; unfold RoS; rw [← hpl]; exact r1
    · rw [q2]; exact r2
theorem isc_map (l : List Int) : l.flatMap isc = l.map (Value.int .i64) := by
  induction l with
  | nil => rfl
  | cons x r ih => simp only [List.flatMap_cons, ih, List.map_cons]; rfl
theorem sortI8_any {w : World} {base : Nat} {v : Value} {ys : List Int} {L : List Int} (h : RoI w base v ys) (hm : ys.length ≤ 4398046511104) (hL : L.Pairwise (fun a b => ltI a b = true)) (hp : ys.Perm L) :
    Calls Tryz.prog 124 #[v] w fun e w' => e = .returned (.tuple #[]) ∧ RoI w' base v L ∧ w.grownBy w' v.ownBlock := by
  have h' : w.ownsRow base 3 1 v ys.length (ys.map (Value.int .i64)) := by rw [← isc_map]; exact h
  have e5 : (ys.mergeSort fun x y => decide (x ≤ y)) = L := by
    have : (fun x y : Int => decide (x ≤ y)) = fun x y => !ltI y x := by funext x y; unfold ltI; by_cases q : x ≤ y <;> simp [q] <;> omega
    rw [this]
    exact sorted_keys ordI hL hp
  rcases h.2 with ⟨rfl, e1⟩ | ⟨g, cap, cur, rfl, hb, hg, hn, hmx, hs, ht⟩
  · have e2 : ys.length = 0 := by have h1 := h.1; rw [e1] at h1; simp at h1; omega
    have e3 : ys = [] := List.eq_nil_of_length_eq_zero e2
    subst e3
    have e4 : L = [] := List.nil_perm.mp hp
    subst e4
    exact (Any.slices_Sort_int_none laysSort none 0 w).mono fun e w' ⟨q1, q2⟩ => ⟨q1, by rw [q2]; exact h, by rw [q2]; exact World.grownBy.refl _ _⟩
  · obtain ⟨g2, cap2, e7, hbg, hgl, hncap, hcm, hlen, hH⟩ := Lib.holds_of_ownsRow h' (by simp)
    cases e7
    have hpl := hp.length_eq
    refine (Any.slices_Sort_int laysSort g 0 cap ys w hH hgl (by omega)).mono fun e w' q => ?_
    obtain ⟨q1, n, os, q2⟩ := q
    rw [e5] at q2
    have r1 := Lib.ownsRow_putRow (q := n) (ys := L) (k := ys.length) h' hpl.symm (Nat.le_refl _)
    have hgr : w.grownBy w' (some g) := by rw [q2]; exact grownBy_sortedI _
    refine ⟨q1, ?_, hgr⟩
    unfold RoI
    rw [isc_map, ← hpl, show L = L.take ys.length from by rw [hpl, List.take_length]]
    rw [q2]
    refine ⟨r1.1, ?_⟩
    rcases r1.2 with ⟨e8, _⟩ | ⟨g3, cap3, cur3, e8, hb3, hg3, r3⟩
    · cases e8
    · cases e8
      exact .inr ⟨g, cap, cur3, rfl, hb3, (heap_grow_old _ _ (by simpa [putRow, mapBlock, Sort.ahead] using hgl)).trans hg3, r3⟩
end Go.Proofs.YtillgoegiplmkaaGreatDoor.B

namespace Go.Proofs.YtillgoegiplmkaaGreatDoor.B
open C
open Go.RowKit Go.Maps Go.Shelf Go.Sort
set_option linter.unusedVariables false
set_option linter.unusedSimpArgs false

theorem keys_perm {α β κ : Type} [DecidableEq κ] {lt : κ → κ → Bool} (o : Ord lt) {ka : α → κ} {kb : β → κ} {f : β → α} {L : List α} {X : List β} (hs : Srt lt ka L) (hn : (X.map kb).Nodup) (hf : ∀ s, fnd ka s L = (fnd kb s X).map f) : (X.map kb).Perm (L.map ka) := by
  have hp : (L.map ka).Pairwise (fun a b => lt a b = true) := List.pairwise_map.mpr hs
  refine (List.perm_ext_iff_of_nodup hn (hp.imp (fun {a b} h => o.ne h))).mpr fun s => ?_
  have h1 : ∀ {γ : Type} (k : γ → κ) (M : List γ), s ∈ M.map k ↔ fnd k s M ≠ none := fun {γ} k M => by
    rw [Ne, fnd_none, List.mem_map]
    constructor
    · rintro ⟨x, hx, e⟩ hn
      exact hn x hx e
    · intro hn
      exact Classical.byContradiction fun hq => hn (fun x hx e => hq ⟨x, hx, e⟩)
  rw [h1, h1, hf s]
  cases fnd kb s X <;> simp
theorem RoS.b0 {w : World} {b : Nat} {v : Value} {l : List Ss} (h : RoS w b v l) {c : Nat} (hc : c ≤ b) : RoS w c v l := ⟨h.1, h.2.imp id (fun ⟨g, cap, cur, e1, e2, e3⟩ => ⟨g, cap, cur, e1, by omega, e3⟩)⟩
theorem RoI.b0 {w : World} {b : Nat} {v : Value} {l : List Int} (h : RoI w b v l) {c : Nat} (hc : c ≤ b) : RoI w c v l := ⟨h.1, h.2.imp id (fun ⟨g, cap, cur, e1, e2, e3⟩ => ⟨g, cap, cur, e1, by omega, e3⟩)⟩
/-- What a row of keys is. -/
def KyS (L : List Ss) (w : World) (e : Ending) (w' : World) : Prop := ∃ a n c, e = .returned (.slice a n c) ∧ RoS w' w.heap.size (.slice a n c) L ∧ Below w.heap.size w w'
def KyI (L : List Int) (w : World) (e : Ending) (w' : World) : Prop := ∃ a n c, e = .returned (.slice a n c) ∧ RoI w' w.heap.size (.slice a n c) L ∧ Below w.heap.size w w'

set_option maxHeartbeats 4000000 in
theorem sortedFS_any {w : World} {L K : List Ss} {gk Bm : Nat} (hK : K.length ≤ 4398046511104) (heg : ∀ args w, (callFunc gk args).run Tryz.prog w = .ok (.enter gk args) w) (hfg : Fence.wide.fn gk)
    (hseq : ∀ W, Below w.heap.size w W → SeqStopsK Fence.wide 8 Tryz.prog gk #[.pointer (some ⟨Bm, 0, none⟩)] (fun x : Ss => #[sA x]) KeepsWalks (fun ys => ys.Perm K) (fun _ => True) K.length W)
    (hL : L.Pairwise (fun a b => ltS a b = true)) (hp : K.Perm L) (gc : Nat) (eg : ∀ args w, (callFunc gc args).run Tryz.prog w = .ok (.enter gc args) w)
    (hc : ∀ x y W, Calls Tryz.prog gc #[.agg #[.int .i64 x.1, .int .i64 x.2], .agg #[.int .i64 y.1, .int .i64 y.2]] W fun e w' => e = .returned (.int .i64 (cmpS x y)) ∧ ∃ q os', w' = grow (W.drewN q) os') :
    Calls Tryz.prog 116 #[.func (.func gk) #[] #[.pointer (some ⟨Bm, 0, none⟩)], .func (.func gc) #[] #[]] w (KyS L w) := by
  have HC : Hid (Calls Tryz.prog 144 #[.func (.func gk) #[] #[.pointer (some ⟨Bm, 0, none⟩)]] w (CoS K w)) := collS_any hK heg hfg hseq
  have HP : Hid (K.length ≤ 4398046511104 ∧ L.Pairwise (fun a b => ltS a b = true) ∧ K.Perm L) := ⟨hK, hL, hp⟩
  clear hseq hK hL hp
  go_enter Tryz.func116, Tryz.ntmps116
  go_upto_region 2 with (go_at_call 144; refine HC.out.mono ?_; rintro e w1 ⟨v, ys, rfl, r1, r2, r3⟩; obtain ⟨a3, n3, c3, rfl⟩ := own_sl8 r2)
  have HR : Hid (Below w.heap.size w w1 ∧ RoS w1 w.heap.size (.slice a3 n3 c3) ys) := ⟨r3, r2⟩
  have HS : Hid (Calls Tryz.prog 145 #[.slice a3 n3 c3, .func (.func gc) #[] #[]] w1 fun e w' => e = .returned (.tuple #[]) ∧ RoS w' w.heap.size (.slice a3 n3 c3) L ∧ w1.grownBy w' (Value.slice a3 n3 c3).ownBlock) := sortF8_any gc r2 (by have := r1.length_eq; have := HP.out.1; omega) eg hc HP.out.2.1 (r1.trans HP.out.2.2)
  clear r1 r2 r3
  go_wp2_with (go_at_call 145; refine HS.out.mono ?_; rintro e w2 ⟨rfl, q1, q2⟩)
  go_ret
  exact ⟨_, _, _, rfl, q1, HR.out.1.grown q2 HR.out.1.size (fun k hk => (HR.out.2.lt k hk).1)⟩

set_option maxHeartbeats 4000000 in
theorem sortedFI_any {w : World} {L K : List Int} {gk Bm : Nat} (hK : K.length ≤ 4398046511104) (heg : ∀ args w, (callFunc gk args).run Tryz.prog w = .ok (.enter gk args) w) (hfg : Fence.wide.fn gk)
    (hseq : ∀ W, Below w.heap.size w W → SeqStopsK Fence.wide 8 Tryz.prog gk #[.pointer (some ⟨Bm, 0, none⟩)] (fun x : Int => #[iA x]) KeepsWalks (fun ys => ys.Perm K) (fun _ => True) K.length W)
    (hL : L.Pairwise (fun a b => ltI a b = true)) (hp : K.Perm L) :
    Calls Tryz.prog 65 #[.func (.func gk) #[] #[.pointer (some ⟨Bm, 0, none⟩)]] w (KyI L w) := by
  have HC : Hid (Calls Tryz.prog 123 #[.func (.func gk) #[] #[.pointer (some ⟨Bm, 0, none⟩)]] w (CoI K w)) := collI_any hK heg hfg hseq
  have HP : Hid (K.length ≤ 4398046511104 ∧ L.Pairwise (fun a b => ltI a b = true) ∧ K.Perm L) := ⟨hK, hL, hp⟩
  clear hseq hK hL hp
  go_enter Tryz.func65, Tryz.ntmps65
  go_upto_region 2 with (go_at_call 123; refine HC.out.mono ?_; rintro e w1 ⟨v, ys, rfl, r1, r2, r3⟩; obtain ⟨a3, n3, c3, rfl⟩ := own_sl8 r2)
  have HR : Hid (Below w.heap.size w w1 ∧ RoI w1 w.heap.size (.slice a3 n3 c3) ys) := ⟨r3, r2⟩
  have HS : Hid (Calls Tryz.prog 124 #[.slice a3 n3 c3] w1 fun e w' => e = .returned (.tuple #[]) ∧ RoI w' w.heap.size (.slice a3 n3 c3) L ∧ w1.grownBy w' (Value.slice a3 n3 c3).ownBlock) := sortI8_any r2 (by have := r1.length_eq; have := HP.out.1; omega) HP.out.2.1 (r1.trans HP.out.2.2)
  clear r1 r2 r3
  go_wp2_with (go_at_call 124; refine HS.out.mono ?_; rintro e w2 ⟨rfl, q1, q2⟩)
  go_ret
  exact ⟨_, _, _, rfl, q1, HR.out.1.grown q2 HR.out.1.size (fun k hk => (HR.out.2.lt k hk).1)⟩

theorem mkeysX_any (m : Nat) (w : World) : Calls Tryz.prog 117 #[.map (some m)] w fun e w' => e = .returned (.func (.func 146) #[] #[.pointer (some ⟨w.heap.size, 0, none⟩)]) ∧ w' = w.alloc (.cells #[.map (some m)] 68) := by
  go_enter Tryz.func117, Tryz.ntmps117
  go_wp2
  go_ret
  exact ⟨rfl, rfl⟩

theorem mkeysI_any (m : Nat) (w : World) : Calls Tryz.prog 121 #[.map (some m)] w fun e w' => e = .returned (.func (.func 148) #[] #[.pointer (some ⟨w.heap.size, 0, none⟩)]) ∧ w' = w.alloc (.cells #[.map (some m)] 69) := by
  go_enter Tryz.func121, Tryz.ntmps121
  go_wp2
  go_ret
  exact ⟨rfl, rfl⟩

theorem mkeysB_any (m : Nat) (w : World) : Calls Tryz.prog 66 #[.map (some m)] w fun e w' => e = .returned (.func (.func 125) #[] #[.pointer (some ⟨w.heap.size, 0, none⟩)]) ∧ w' = w.alloc (.cells #[.map (some m)] 70) := by
  go_enter Tryz.func66, Tryz.ntmps66
  go_wp2
  go_ret
  exact ⟨rfl, rfl⟩

set_option maxHeartbeats 4000000 in
theorem sortedX_any {w : World} {z : Tz} {T : T8} (h : Tw w z T) (hn : T.ex.length ≤ 4398046511104) : Calls Tryz.prog 61 #[.map (some z.m1)] w (KyS (T.ex.map Og.s) w) := by
  have hb : Below w.heap.size w (w.alloc (.cells #[.map (some z.m1)] 68)) := (Below.refl _ _).alloc (Nat.le_refl _) _
  have hT := h.below hb
  have hcell : (w.alloc (.cells #[.map (some z.m1)] 68)).heap[w.heap.size]? = some (.cells #[.map (some z.m1)] 68) := heap_alloc_new' w _
  have hk : (z.X.map Xm.ent).map Ent.k = z.X.map Xm.s := by rw [List.map_map]; rfl
  have hper : (z.X.map Xm.s).Perm (T.ex.map Og.s) := keys_perm ordS h.pX.srt (by rw [← hk]; exact h.pX.mp.nd) h.pX.f
  have HS : Hid (Calls Tryz.prog 116 #[.func (.func 146) #[] #[.pointer (some ⟨w.heap.size, 0, none⟩)], .func (.func 118) #[] #[]] (w.alloc (.cells #[.map (some z.m1)] 68)) (KyS (T.ex.map Og.s) (w.alloc (.cells #[.map (some z.m1)] 68)))) :=
    sortedFS_any (K := (z.X.map Xm.ent).map Ent.k) (by rw [hk]; have := hper.length_eq; simp at this ⊢; omega) (enters_of Tryz.func146 (by kernel_rfl) rfl) trivial (fun W hW => keysX_seq hcell hT.pX.mp 8 (by omega) W hW) (List.pairwise_map.mpr h.pX.srt) (by rw [hk]; exact hper) 118 (enters_of Tryz.func118 (by kernel_rfl) rfl) (fun x y W => cloX_any x y W)
  have HM : Hid (Calls Tryz.prog 117 #[.map (some z.m1)] w fun e w' => e = .returned (.func (.func 146) #[] #[.pointer (some ⟨w.heap.size, 0, none⟩)]) ∧ w' = w.alloc (.cells #[.map (some z.m1)] 68)) := mkeysX_any z.m1 w
  clear h hb hT hcell hk hper hn
  go_enter Tryz.func61, Tryz.ntmps61
  go_wp2_with (first | (go_at_call 117; refine HM.out.mono ?_; rintro e w' ⟨rfl, rfl⟩) | (go_at_call 116; refine HS.out.mono ?_; rintro e w' ⟨a, n, c, rfl, q1, q2⟩))
  go_ret
  exact ⟨_, _, _, rfl, q1.b0 (by simp), ((Below.refl _ _).alloc (Nat.le_refl _) _).trans (q2.mono (by simp))⟩

set_option maxHeartbeats 4000000 in
theorem sortedI_any {w : World} {z : Tz} {T : T8} (h : Tw w z T) (hn : T.im.length ≤ 4398046511104) : Calls Tryz.prog 63 #[.map (some z.m2)] w (KyS (T.im.map Ic.s) w) := by
  have hb : Below w.heap.size w (w.alloc (.cells #[.map (some z.m2)] 69)) := (Below.refl _ _).alloc (Nat.le_refl _) _
  have hT := h.below hb
  have hcell : (w.alloc (.cells #[.map (some z.m2)] 69)).heap[w.heap.size]? = some (.cells #[.map (some z.m2)] 69) := heap_alloc_new' w _
  have hk : (z.I.map Im.ent).map Ent.k = z.I.map Im.s := by rw [List.map_map]; rfl
  have hper : (z.I.map Im.s).Perm (T.im.map Ic.s) := keys_perm ordS h.pI.srt (by rw [← hk]; exact h.pI.mp.nd) h.pI.f
  have HS : Hid (Calls Tryz.prog 116 #[.func (.func 148) #[] #[.pointer (some ⟨w.heap.size, 0, none⟩)], .func (.func 122) #[] #[]] (w.alloc (.cells #[.map (some z.m2)] 69)) (KyS (T.im.map Ic.s) (w.alloc (.cells #[.map (some z.m2)] 69)))) :=
    sortedFS_any (K := (z.I.map Im.ent).map Ent.k) (by rw [hk]; have := hper.length_eq; simp at this ⊢; omega) (enters_of Tryz.func148 (by kernel_rfl) rfl) trivial (fun W hW => keysI_seq hcell hT.pI.mp 8 (by omega) W hW) (List.pairwise_map.mpr h.pI.srt) (by rw [hk]; exact hper) 122 (enters_of Tryz.func122 (by kernel_rfl) rfl) (fun x y W => cloI_any x y W)
  have HM : Hid (Calls Tryz.prog 121 #[.map (some z.m2)] w fun e w' => e = .returned (.func (.func 148) #[] #[.pointer (some ⟨w.heap.size, 0, none⟩)]) ∧ w' = w.alloc (.cells #[.map (some z.m2)] 69)) := mkeysI_any z.m2 w
  clear h hb hT hcell hk hper hn
  go_enter Tryz.func63, Tryz.ntmps63
  go_wp2_with (first | (go_at_call 121; refine HM.out.mono ?_; rintro e w' ⟨rfl, rfl⟩) | (go_at_call 116; refine HS.out.mono ?_; rintro e w' ⟨a, n, c, rfl, q1, q2⟩))
  go_ret
  exact ⟨_, _, _, rfl, q1.b0 (by simp), ((Below.refl _ _).alloc (Nat.le_refl _) _).trans (q2.mono (by simp))⟩

theorem sortedB_any {w : World} {z : Tz} {T : T8} (h : Tw w z T) (hn : T.tb.length ≤ 4398046511104) {Bm : Nat} {w0 : World} (hb : Below w0.heap.size w0 w) (hcell : w.heap[Bm]? = some (.cells #[.map (some z.m3)] 70)) : Calls Tryz.prog 65 #[.func (.func 125) #[] #[.pointer (some ⟨Bm, 0, none⟩)]] w (KyI (T.tb.map (Prod.fst : Tm → Int)) w) := by
  have hk : (z.B.map Tp.ent).map EnI.k = z.B.map Tp.o := by rw [List.map_map]; rfl
  have hper : (z.B.map Tp.o).Perm (T.tb.map (Prod.fst : Tm → Int)) := keys_perm ordI h.pB.srt (by rw [← hk]; exact h.pB.mp.nd) h.pB.f
  exact sortedFI_any (K := (z.B.map Tp.ent).map EnI.k) (by rw [hk]; have := hper.length_eq; simp at this ⊢; omega) (enters_of Tryz.func125 (by kernel_rfl) rfl) trivial (fun W hW => keysB_seq hcell h.pB.mp 8 (by omega) W hW) (List.pairwise_map.mpr h.pB.srt) (by rw [hk]; exact hper)
end Go.Proofs.YtillgoegiplmkaaGreatDoor.B
