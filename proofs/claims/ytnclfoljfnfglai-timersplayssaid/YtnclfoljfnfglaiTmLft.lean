import Derived.Test.YtnclfoljfnfglaiTmHld
namespace Go.Proofs.Ytnclfoljfnfglai
open Go.RowKit Go.Maps
set_option linter.unusedVariables false

/-! ## How many there are; how many ticks one has left; one is stopped -/
theorem count10_any (p bl bh : Nat) (L : Tl) (Hs : List Int) (w : World) (h : Tb w p bl bh L Hs) :
    Calls Try.prog 28 #[.pointer (some ⟨p, 0, none⟩)] w fun e w' => e = .returned (.int .i64 L.length) ∧ w' = w := by
  obtain ⟨D, hD, tD⟩ := h.left
  have hlen := hD.len (t := 79) Try.underlying79 3
  have hsz := tD.len
  have c0 : w.cell? ⟨p, 0, none⟩ = some (.map (some bl)) := h.cell0
  clear tD h
  go_enter Try.func28, Try.ntmps28
  go_wp2_with (first
    | (at_len; refine wpList_len_own _ rfl _ 79 rfl 51 3 Try.underlying79 _ bl L.length D rfl hD ?_; rw [hsz])
    | go_in)
  go_ret
  exact ⟨rfl, rfl⟩

def lftT (L : Tl) (k : Kx) : Int := ((L.find? fun x => decide (x.1 = k)).map Prod.snd).getD 0
theorem lft_in {L : Tl} {k : Kx} {c : Int} (hn : (L.map Prod.fst).Nodup) (h : (k, c) ∈ L) : lftT L k = c := by
  unfold lftT
  cases e : L.find? fun x => decide (x.1 = k) with
  | none =>
    rw [List.find?_eq_none] at e
    exact absurd (by simp) (e _ h)
  | some x =>
    have h1 := List.mem_of_find?_eq_some e
    have h2 := List.find?_some e
    simp only [decide_eq_true_eq] at h2
    obtain ⟨k', c'⟩ := x
    simp only at h2
    subst h2
    simpa using uniqT hn h1 h
theorem lft_out {L : Tl} {k : Kx} (h : k ∉ L.map Prod.fst) : lftT L k = 0 := by
  unfold lftT
  have : L.find? (fun x => decide (x.1 = k)) = none := by
    rw [List.find?_eq_none]
    intro x hx
    simp only [decide_eq_true_eq]
    exact fun e => h (List.mem_map.mpr ⟨x, hx, e⟩)
  rw [this]; rfl
theorem look10 {w : World} {bl n : Nat} {D : DataW Unit} {L : Tl} {k : Kx} (h : w.ownsMap Try.prog 51 (plainElem Try.prog 3) bl n D) (tD : TD D L) (hk : kW k) :
    (Instr.lookup 79 (.map (some bl)) (kA k) true).run Try.prog w = .ok (.tuple #[.int .i64 (lftT L k), .bool (decide (k ∈ L.map Prod.fst))]) w := by
  have hz : ∀ u : World, (zeroValue 3).run Try.prog u = .ok (.int .i64 0) u := fun u => by kernel_rfl
  obtain ⟨v, ps, hr, hv⟩ := h.look_ok (t := 79) keyK Try.underlying79 (hz w) (plainElem_int (q := .i64) (a := 0) Try.underlying3 (by decide)) (key_of hk)
  rw [tD.has_eq hk] at hr
  obtain ⟨c, rfl, hc, _⟩ := plainElem_int_inv Try.underlying3 hv
  have hc1 := (Prod.mk.inj hc).1
  have e : c = lftT L k := by
    by_cases hm : k ∈ L.map Prod.fst
    · obtain ⟨⟨k', c'⟩, hx, e⟩ := List.mem_map.mp hm
      have e' : k' = k := e
      subst e'
      rw [tD.val _ hx] at hc1
      rw [lft_in tD.nd hx]
      simpa using hc1.symm
    · have hn : Maps.has D (kL k) = false := by rw [tD.has_eq hk]; exact decide_eq_false hm
      rw [lft_out hm]
      rw [atKey_of_not_has hn] at hc1
      simpa using hc1.symm
  rw [e] at hr
  exact hr

set_option maxHeartbeats 1000000 in
theorem left10_any (p bl bh : Nat) (L : Tl) (Hs : List Int) (k : Kx) (w : World) (h : Tb w p bl bh L Hs) (hk : kW k) :
    Calls Try.prog 34 #[.pointer (some ⟨p, 0, none⟩), kA k] w fun e w' => e = .returned (.tuple #[.int .i64 (lftT L k), .bool (decide (k ∈ L.map Prod.fst))]) ∧ Below w.heap.size w w' := by
  obtain ⟨W, hW⟩ : ∃ W, w.alloc (kO k) = W := ⟨_, rfl⟩
  have T2 : Tb W.drew p bl bh L Hs := by rw [← hW]; exact (h.alloc _).drew
  have K2 : Hid (Below w.heap.size w W.drew) := by
    rw [← hW]
    have h1 := (Below.refl w.heap.size w).alloc (Nat.le_refl _) (kO k)
    exact ⟨h1.os, h1.tape, h1.output, h1.size, h1.block⟩
  obtain ⟨D, hD, tD⟩ := T2.left
  have hq := look10 hD tD hk
  have cb : W.drew.cell? ⟨p, 0, none⟩ = some (.map (some bl)) := T2.cell0
  obtain ⟨lv, hlv⟩ : ∃ x, lftT L k = x := ⟨_, rfl⟩
  obtain ⟨bv, hbv⟩ : ∃ x, decide (k ∈ L.map Prod.fst) = x := ⟨_, rfl⟩
  rw [hlv, hbv] at hq ⊢
  obtain ⟨a0, a1, a2, a3, a4⟩ := k
  have c0 : W.drew.cell? ⟨w.heap.size, 0, none⟩ = some (.int .i64 a0) := by rw [← hW]; simp
  have c1 : W.drew.cell? ⟨w.heap.size, 1, none⟩ = some (.int .i64 a1) := by rw [← hW]; simp
  have c2 : W.drew.cell? ⟨w.heap.size, 2, none⟩ = some (.int .i64 a2) := by rw [← hW]; simp
  have c3 : W.drew.cell? ⟨w.heap.size, 3, none⟩ = some (.int .i64 a3) := by rw [← hW]; simp
  have c4 : W.drew.cell? ⟨w.heap.size, 4, none⟩ = some (.int .i64 a4) := by rw [← hW]; simp
  clear hD tD T2 h hk hlv hbv
  go_enter Try.func34, Try.ntmps34
  go_wp2_with fail
  go_region
  all_goals (
    go_wp2
    refine bodyPost_ret (v := .tuple #[.int .i64 lv, .bool bv]) (by simp [results, Try.results34, go_sem]) rfl ?_
    exact ⟨rfl, K2.out⟩)

set_option maxHeartbeats 1000000 in
theorem stop10_any (p bl bh : Nat) (L : Tl) (Hs : List Int) (k : Kx) (w : World) (h : Tb w p bl bh L Hs) (hk : kW k) :
    Calls Try.prog 43 #[.pointer (some ⟨p, 0, none⟩), kA k] w fun e w' => e = .returned (.bool (decide (k ∈ L.map Prod.fst))) ∧ Tb w' p bl bh (delT L k) Hs ∧ Kq (· = bl) w w' := by
  obtain ⟨W, hW⟩ : ∃ W, w.alloc (kO k) = W := ⟨_, rfl⟩
  have T2 : Tb W.drew p bl bh L Hs := by rw [← hW]; exact (h.alloc _).drew
  have K2 : Kq (· = bl) w W.drew.drew := by rw [← hW]; exact ((Kq.refl _ _).alloc _).drew.drew
  obtain ⟨D, hD, tD⟩ := T2.left
  have hq := look10 hD tD hk
  have hD2 : W.drew.drew.ownsMap Try.prog 51 (plainElem Try.prog 3) bl L.length D := hD
  obtain ⟨w3, hrun, ho3, ht3⟩ := hD2.drop (t := 79) keyK Try.underlying79 (key_of hk) 0
  have T2d : Tb W.drew.drew p bl bh L Hs := T2.drew
  have T3 : Hid (Tb w3 p bl bh (delT L k) Hs) := T2d.turn ho3 (tD.del (hD.tidy keyK) hk) ((Kq.refl _ _).grown ht3.grown (fun j hj => by cases hj; exact .inl rfl)) (fun x hx => T2.pos x (mem_delT.mp hx).1)
  have K3 : Hid (Kq (· = bl) w w3) := K2.grown ht3.grown (fun j hj => by cases hj; exact .inl rfl)
  have cb : W.drew.cell? ⟨p, 0, none⟩ = some (.map (some bl)) := T2.cell0
  have cb2 : W.drew.drew.cell? ⟨p, 0, none⟩ = some (.map (some bl)) := T2.cell0
  obtain ⟨lv, hlv⟩ : ∃ x, lftT L k = x := ⟨_, rfl⟩
  obtain ⟨bv, hbv⟩ : ∃ x, decide (k ∈ L.map Prod.fst) = x := ⟨_, rfl⟩
  rw [hlv, hbv] at hq
  rw [hbv]
  obtain ⟨a0, a1, a2, a3, a4⟩ := k
  have c0 : W.drew.cell? ⟨w.heap.size, 0, none⟩ = some (.int .i64 a0) := by rw [← hW]; simp
  have c1 : W.drew.cell? ⟨w.heap.size, 1, none⟩ = some (.int .i64 a1) := by rw [← hW]; simp
  have c2 : W.drew.cell? ⟨w.heap.size, 2, none⟩ = some (.int .i64 a2) := by rw [← hW]; simp
  have c3 : W.drew.cell? ⟨w.heap.size, 3, none⟩ = some (.int .i64 a3) := by rw [← hW]; simp
  have c4 : W.drew.cell? ⟨w.heap.size, 4, none⟩ = some (.int .i64 a4) := by rw [← hW]; simp
  have d0 : W.drew.drew.cell? ⟨w.heap.size, 0, none⟩ = some (.int .i64 a0) := c0
  have d1 : W.drew.drew.cell? ⟨w.heap.size, 1, none⟩ = some (.int .i64 a1) := c1
  have d2 : W.drew.drew.cell? ⟨w.heap.size, 2, none⟩ = some (.int .i64 a2) := c2
  have d3 : W.drew.drew.cell? ⟨w.heap.size, 3, none⟩ = some (.int .i64 a3) := c3
  have d4 : W.drew.drew.cell? ⟨w.heap.size, 4, none⟩ = some (.int .i64 a4) := c4
  clear hD tD T2 h hk hlv hbv hD2 ho3 ht3 T2d K2
  go_enter Try.func43, Try.ntmps43
  go_wp2_with fail
  go_region
  clear c0 c1 c2 c3 c4 cb hq
  go_wp2
  go_region
  all_goals (go_wp2; go_ret; exact ⟨rfl, T3.out, K3.out⟩)

end Go.Proofs.Ytnclfoljfnfglai
