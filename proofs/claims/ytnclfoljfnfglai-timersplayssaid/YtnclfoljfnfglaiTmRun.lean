import Derived.Test.YtnclfoljfnfglaiTmSta
import Derived.Laws.MakeOwn
import Derived.OwnWalk
namespace Go.Proofs.Ytnclfoljfnfglai
open Go.RowKit Go.Maps
set_option linter.unusedVariables false

/-- How far the walk over a table's timers came: these keys were told. -/
structure RS (L : Tl) (Hs : List Int) (left : Lit → Bool) (ks : List Kx) : Prop where
  nd : ks.Nodup
  mem : ∀ k, k ∈ ks ↔ (k ∈ L.map Prod.fst ∧ k.1 ∉ Hs ∧ left (kL k) = false)
theorem RS.start {D : DataW Unit} {L : Tl} (Hs : List Int) (h : TD D L) : RS L Hs (Maps.has D) [] := by
  refine ⟨List.nodup_nil, fun k => ⟨fun hk => by simp at hk, fun ⟨h1, _, h3⟩ => ?_⟩⟩
  obtain ⟨x, hx, rfl⟩ := List.mem_map.mp h1
  rw [h.mem x hx] at h3; cases h3
theorem RS.done {L : Tl} {Hs : List Int} {left : Lit → Bool} {ks : List Kx} (h : RS L Hs left ks) (hl : ∀ l, left l = false) : ∀ k, k ∈ ks ↔ (k ∈ L.map Prod.fst ∧ k.1 ∉ Hs) := fun k => by
  rw [h.mem k]; simp [hl]
theorem strike_eq {left : Lit → Bool} {k x : Kx} (hk : kW k) (hx : kW x) : (left (kL k) && !(kL k).sameKey (kL x)) = false ↔ left (kL k) = false ∨ k = x := by
  by_cases e : k = x
  · subst e
    simp [WideAt.sameKey_self (keyK.key (key_of hk))]
  · have : (kL k).sameKey (kL x) = false := sameKey_ne (fun e2 => e (kL_inj hk hx e2))
    simp [this, e]
theorem RS.skip {D : DataW Unit} {L : Tl} {Hs : List Int} {left : Lit → Bool} {ks : List Kx} {x : Kx} (hD : TD D L) (h : RS L Hs left ks) (hx : kW x) (hh : x.1 ∈ Hs) : RS L Hs (fun z => left z && !z.sameKey (kL x)) ks := by
  refine ⟨h.nd, fun k => (h.mem k).trans ⟨fun ⟨h1, h2, h3⟩ => ?_, fun ⟨h1, h2, h3⟩ => ?_⟩⟩
  · obtain ⟨y, hy, rfl⟩ := List.mem_map.mp h1
    exact ⟨h1, h2, (strike_eq (hD.wf y hy).1 hx).mpr (.inl h3)⟩
  · obtain ⟨y, hy, rfl⟩ := List.mem_map.mp h1
    rcases (strike_eq (hD.wf y hy).1 hx).mp h3 with h4 | h4
    · exact ⟨h1, h2, h4⟩
    · rw [h4] at h2; exact absurd hh h2
theorem RS.take {D : DataW Unit} {L : Tl} {Hs : List Int} {left : Lit → Bool} {ks : List Kx} {x : Kx} (hD : TD D L) (h : RS L Hs left ks) (hx : kW x) (hm : x ∈ L.map Prod.fst) (hl : left (kL x) = true) (hh : x.1 ∉ Hs) : RS L Hs (fun z => left z && !z.sameKey (kL x)) (ks ++ [x]) := by
  have hn : x ∉ ks := fun e => by have := ((h.mem x).mp e).2.2; rw [hl] at this; cases this
  refine ⟨?_, fun k => ⟨fun hk => ?_, fun ⟨h1, h2, h3⟩ => ?_⟩⟩
  · rw [List.nodup_append]
    exact ⟨h.nd, by simp, fun a ha b hb e => by simp at hb; subst hb; subst e; exact hn ha⟩
  · rcases List.mem_append.mp hk with hk | hk
    · obtain ⟨h1, h2, h3⟩ := (h.mem k).mp hk
      obtain ⟨y, hy, rfl⟩ := List.mem_map.mp h1
      exact ⟨h1, h2, (strike_eq (hD.wf y hy).1 hx).mpr (.inl h3)⟩
    · simp at hk; subst hk
      exact ⟨hm, hh, (strike_eq hx hx).mpr (.inr rfl)⟩
  · obtain ⟨y, hy, rfl⟩ := List.mem_map.mp h1
    rcases (strike_eq (hD.wf y hy).1 hx).mp h3 with h4 | h4
    · exact List.mem_append_left _ ((h.mem _).mpr ⟨h1, h2, h4⟩)
    · rw [h4]; simp
theorem TD.key {D : DataW Unit} {L : Tl} {x : Kx} {y : DataW Unit} (h : TD D L) (hx : kW x) (hat : ∀ z, D.atKey (kL x) z = y) : x ∈ L.map Prod.fst := by
  obtain ⟨p, hp, e⟩ := h.inv _ (has_true_of_atKey hat)
  rw [kL_inj hx (h.wf p hp).1 e]
  exact List.mem_map.mpr ⟨p, hp, rfl⟩

theorem zero91 (w : World) : (zeroValue 91).run Try.prog w = .ok (.agg #[]) w := by kernel_rfl
theorem held_look {w : World} {bh n : Nat} {E : DataW Unit} {Hs : List Int} {x : Int} (h : w.ownsMap Try.prog 3 unitElem bh n E) (hE : HD E Hs) (hx : kI x = true) :
    (Instr.lookup 80 (.map (some bh)) (.int .i64 x) true).run Try.prog w = .ok (.tuple #[.agg #[], .bool (decide (x ∈ Hs))]) w := by
  obtain ⟨v, ps, hr, hv⟩ := h.look_ok (t := 80) peerK Try.underlying80 (zero91 _) unitElem_mk (keyOf_int_mk Try.underlying3 (show (Lit.int .i64 x).wf = true from hx))
  obtain ⟨rfl, _⟩ := unitElem_inv hv
  rw [← hE.has x hx]; exact hr

set_option maxHeartbeats 2000000 in
set_option maxRecDepth 100000 in
theorem running_any (p bl bh : Nat) (L : Tl) (Hs : List Int) (w : World) (h : Tb w p bl bh L Hs) (hl : L.length < 2199023255552) :
    Calls Try.prog 55 #[.pointer (some ⟨p, 0, none⟩)] w fun e w' => ∃ v ks, e = .returned v ∧ KR w' w.heap.size v ks ∧ ks.Nodup ∧ (∀ k, k ∈ ks ↔ (k ∈ L.map Prod.fst ∧ k.1 ∉ Hs)) ∧ ks.length ≤ L.length ∧ Below w.heap.size w w' := by
  obtain ⟨D, hD, tD⟩ := h.left
  obtain ⟨E, hE, tE⟩ := h.held
  obtain ⟨l1, l2, l3⟩ := h.lts
  have hne := h.ne
  have hsz := tD.len
  have HTD : Hid (TD D L) := tD
  have HTE : Hid (HD E Hs) := tE
  have HTb : Hid (Tb w p bl bh L Hs) := h
  have c0 : w.cell? ⟨p, 0, none⟩ = some (.map (some bl)) := h.cell0
  obtain ⟨i0, hi, hz0, hz1, hz2⟩ := info_parts Try.pinfo_key
  clear tD tE h
  go_enter Try.func55, Try.ntmps55
  go_wp2_with (first
    | (at_len; refine wpList_len_own _ rfl _ 79 rfl 51 3 Try.underlying79 _ bl L.length D rfl hD ?_; rw [hsz])
    | (at_make; refine wpList_make_own _ rfl _ _ 58 rfl w.heap.size 51 i0 (.agg #[.int .i64 0, .int .i64 0, .int .i64 0, .int .i64 0, .int .i64 0]) 5 Try.underlying58 hi hz0 hz1 .i64 .i64 _ L.length rfl rfl (by simp) (by rw [hz2]; omega) (by unfold maxLen; omega) (Nat.le_refl _) ?_
       intro w1 hown1 hgrow1
       have hD1 := hD.kept hgrow1 (by simp)
       have c1 : w1.cell? ⟨p, 0, none⟩ = some (.map (some bl)) := (World.cell?_of_block (hgrow1.block p l1 (by simp))).trans c0)
    | (at_range; refine wpList_range_own _ rfl _ 79 rfl 51 3 keyK Try.underlying79 _ bl L.length D rfl hD1 ?_; intro w2 hrg0 hg0 hs0)
    | go_in)
  go_frame
  obtain ⟨r, hr⟩ : ∃ r, r = w1.heap.size := ⟨_, rfl⟩
  rw [← hr] at hrg0
  have K0 : Hid (Kq (fun _ => False) w w2) := ((Kq.refl _ _).grown hgrow1 (fun k hk => by cases hk)).grown hg0 (fun k hk => by cases hk)
  have hlow : w.heap.size < r := by have := World.ownsRow.lt hown1 _ rfl; omega
  have R0 : Hid (KR w2 w.heap.size (.slice (some ⟨w.heap.size, 0, none⟩) 0 L.length) []) := KR.keep (S := fun _ => False) hown1 ((Kq.refl _ _).grown hg0 (fun k hk => by cases hk)) (fun g _ h => h)
  rw [← hr]
  clear hown1 hgrow1 hD1 c1 hg0 hs0 hr hD
  go_loopw [3] (fun v wr => ∃ (left : Lit → Bool) (cnt : Nat) (ks : List Kx), wr.ranges Try.prog 51 (plainElem Try.prog 3) bl r L.length D left cnt ∧ RS L Hs left ks ∧ KR wr w.heap.size v ks ∧ v.ownBlock ≠ some r ∧ ks.length + cnt ≤ L.length ∧ Kq (fun _ => False) w wr)
    (fun _ wr => wr.rangeLeft bl r)
  case atStart => exact ⟨_, _, [], hrg0, RS.start Hs HTD.out, R0.out, by simp [Value.ownBlock]; omega, by rw [hsz]; simp, K0.out⟩
  case round =>
    obtain ⟨left, cnt, ks, hrg, hrs, hkr, hob, hcn, hkq⟩ := hrel
    have HRS : Hid (RS L Hs left ks) := hrs
    have HKR : Hid (KR wr w.heap.size _ ks) := hkr
    have HKQ : Hid (Kq (fun _ => False) w wr) := hkq
    clear hrs hkr hkq
    go_wp2_with (first
      | (at_next; refine wpList_next_ranges _ rfl _ rfl 51 keyK _ kA (Value.int .i64) (fun key kl hk => by obtain ⟨k, e, _⟩ := key_inv hk; exact ⟨k, e⟩) (fun v y hv => by obtain ⟨c, e, _⟩ := plainElem_int_inv Try.underlying3 hv; exact ⟨c, e⟩) bl r L.length _ _ _ rfl hrg ?_ ?_)
      | go_in)
    · intro _ hl0
      go_wp2
      go_ret
      exact ⟨_, ks, rfl, HKR.out, HRS.out.nd, HRS.out.done hl0, by omega, HKQ.out.below (Nat.le_refl _) (fun g h => h.elim)⟩
    · intro x0 x1 x2 x3 x4 c kl yd yp w3 cnt3 hkey hlx hv hat hrg1 hlt hg1 hs1 hen
      obtain ⟨k', e1, hkw, rfl⟩ := key_inv hkey
      obtain rfl := kA_inj e1
      clear e1
      have hxm := HTD.out.key hkw hat
      have K3 := HKQ.out.grown hg1 (fun k hk => by cases hk; exact .inr (Nat.le_of_lt hlow))
      have T3 := HTb.out.keep K3 (fun h => h) (fun h => h) (fun h => h)
      obtain ⟨W4, hW4⟩ : ∃ W, w3.alloc (kO (x0, x1, x2, x3, x4)) = W := ⟨_, rfl⟩
      have T4 : Tb W4.drew p bl bh L Hs := by rw [← hW4]; exact (T3.alloc _).drew
      have K4 : Hid (Kq (fun _ => False) w W4) := by rw [← hW4]; exact K3.alloc _
      have hrg4 := hrg1.alloc (kO (x0, x1, x2, x3, x4))
      have R3 : KR w3 w.heap.size u3 ks := KR.keep (S := (· = r)) HKR.out ((Kq.refl _ _).grown hg1 (fun k hk => by cases hk; exact .inl rfl)) (fun g hg e => hob (by rw [hg, e]))
      have R4 : Hid (KR W4 w.heap.size u3 ks) := by rw [← hW4]; exact KR.keep (S := fun _ => False) R3 ((Kq.refl _ _).alloc _) (fun g _ h => h)
      rw [hW4] at hrg4
      obtain ⟨E', hE', tE'⟩ := T4.held
      have hq1 := held_look hE' tE' hkw.1
      have hq2 : (Instr.lookup 80 (.map (some bh)) (.int .i64 x0) true).run Try.prog (W4.alloc (.cells #[] 91)).drew = _ := held_look (hE'.alloc (.cells #[] 91)) tE' hkw.1
      have d0 : W4.drew.cell? ⟨p, 1, none⟩ = some (.map (some bh)) := T4.cell1
      have e0 : W4.drew.cell? ⟨wr.heap.size, 0, none⟩ = some (.int .i64 x0) := by rw [← hW4, ← hs1]; simp
      have e1 : W4.drew.cell? ⟨wr.heap.size, 1, none⟩ = some (.int .i64 x1) := by rw [← hW4, ← hs1]; simp
      have e2 : W4.drew.cell? ⟨wr.heap.size, 2, none⟩ = some (.int .i64 x2) := by rw [← hW4, ← hs1]; simp
      have e3 : W4.drew.cell? ⟨wr.heap.size, 3, none⟩ = some (.int .i64 x3) := by rw [← hW4, ← hs1]; simp
      have e4 : W4.drew.cell? ⟨wr.heap.size, 4, none⟩ = some (.int .i64 x4) := by rw [← hW4, ← hs1]; simp
      have d1 : (W4.alloc (.cells #[] 91)).drew.cell? ⟨p, 1, none⟩ = some (.map (some bh)) := (T4.alloc (.cells #[] 91)).cell1
      have f0 : (W4.alloc (.cells #[] 91)).drew.cell? ⟨wr.heap.size, 0, none⟩ = some (.int .i64 x0) := by
        have : W4.cell? ⟨wr.heap.size, 0, none⟩ = some (.int .i64 x0) := e0
        have hz : wr.heap.size < W4.heap.size := by rw [← hW4, ← hs1]; simp
        exact (World.cell?_of_block ((World.grownBy_alloc W4 _ none).block _ hz (by simp))).trans this
      have z4 : W4.drew.heap.size = wr.heap.size + 1 := by rw [← hW4, ← hs1]; simp
      have lp := T4.lts.1
      have hb5 : ∀ j, (W4.alloc (.cells #[] 91)).drew.cell? ⟨wr.heap.size, j, none⟩ = W4.drew.cell? ⟨wr.heap.size, j, none⟩ := fun j => by
        have hz : wr.heap.size < W4.heap.size := by rw [← hW4, ← hs1]; simp
        exact World.cell?_of_block ((World.grownBy_alloc W4 _ none).block _ hz (by simp))
      have f1 := (hb5 1).trans e1
      have f2 := (hb5 2).trans e2
      have f3 := (hb5 3).trans e3
      have f4 := (hb5 4).trans e4
      obtain ⟨V, hV⟩ : ∃ V, (W4.alloc (.cells #[] 91)).drew = V := ⟨_, rfl⟩
      have HV : Hid ((W4.alloc (.cells #[] 91)).drew = V) := hV
      have HRg : Hid (V.ranges Try.prog 51 (plainElem Try.prog 3) bl r L.length D (fun z => left z && !z.sameKey (kL (x0, x1, x2, x3, x4))) cnt3) := by rw [← hV]; exact hrg4.alloc _
      have HR0 : Hid (wr.ranges Try.prog 51 (plainElem Try.prog 3) bl r L.length D left cnt) := hrg
      have RV : Hid (KR V w.heap.size u3 ks) := by rw [← hV]; exact KR.keep (S := fun _ => False) R4.out ((Kq.refl _ _).alloc _).drew (fun g _ h => h)
      have KV : Hid (Kq (fun _ => False) w V) := by rw [← hV]; exact (K4.out.alloc _).drew
      clear T3 K3 R3 hrg4 hrg1 hg1 hrg T4 hE' tE' hE hb5 R4 K4 hV
      by_cases hq : x0 ∈ Hs
      · simp only [hq, decide_true] at hq1 hq2
        go_wp2
        clear hW4
        go_region
        all_goals (
          rw [HV.out]
          clear hq1 hq2 e0 e1 e2 e3 e4 d0 d1
          go_wp2
          go_roundw
          case rel => exact ⟨_, cnt3, ks, HRg.out, HRS.out.skip HTD.out hkw hq, RV.out, hob, by omega, KV.out⟩
          case measure => rw [HRg.out.left_eq, HR0.out.left_eq]; exact hlt)
      · simp only [hq, decide_false] at hq1 hq2
        go_wp2
        clear hW4
        go_region
        all_goals (
          rw [HV.out]
          rw [HV.out] at f0 f1 f2 f3 f4
          clear hq1 hq2 e0 e1 e2 e3 e4 d0 d1
          go_wp2_with (first
            | (at_builtin; refine wpList_append_own_at _ rfl _ _ 58 rfl w.heap.size 51 i0 (.agg #[.int .i64 0, .int .i64 0, .int .i64 0, .int .i64 0, .int .i64 0]) 5 40 Try.underlying58 hi hz0 hz1 hz2 rfl (by decide) u3 ks.length (ks.flatMap kV) rfl (World.ownsRow.alloc RV.out _) ⟨V.heap.size, 0, none⟩ 1 1 [.int .i64 x0, .int .i64 x1, .int .i64 x2, .int .i64 x3, .int .i64 x4] rfl rfl (five_new _ _ _ _ _ _ _) (by simp [Value.oneCell']) (by unfold maxLen; omega) (by omega) (by have := KV.out.size; simp; omega) ?_
               intro v' w6 hown' hgrow hnil hloc; clear hnil)
            | go_in)
          have hgr6 := (World.grownBy_alloc V (.cells #[.int .i64 x0, .int .i64 x1, .int .i64 x2, .int .i64 x3, .int .i64 x4] 51) u3.ownBlock).trans hgrow
          have hrV : r < V.heap.size := HRg.out.lt
          have K6 : Kq (fun _ => False) w w6 := KV.out.grown hgr6 (fun k hk => .inr (World.ownsRow.lt RV.out k hk).1)
          have R6 : w6.ranges Try.prog 51 (plainElem Try.prog 3) bl r L.length D (fun z => left z && !z.sameKey (kL (x0, x1, x2, x3, x4))) cnt3 :=
            HRg.out.kept hgr6 (fun e => by have := (World.ownsRow.lt RV.out bl e.symm).1; omega) (fun e => hob e.symm)
          have O6 : KR w6 w.heap.size v' (ks ++ [(x0, x1, x2, x3, x4)]) := by
            have e7 : (ks ++ [(x0, x1, x2, x3, x4)]).flatMap kV = ks.flatMap kV ++ [.int .i64 x0, .int .i64 x1, .int .i64 x2, .int .i64 x3, .int .i64 x4] := by simp [kV]
            unfold KR
            rw [e7, List.length_append]
            exact hown'
          have hob6 : v'.ownBlock ≠ some r := by
            rcases hloc with e | e
            · rw [e]; exact hob
            · rw [e]; intro h; have := Option.some.inj h; simp at this; omega
          go_roundw
          case rel => exact ⟨_, cnt3, _, R6, HRS.out.take HTD.out hkw hxm hlx hq, O6, hob6, by simp; omega, K6⟩
          case measure => rw [R6.left_eq, HR0.out.left_eq]; exact hlt)

end Go.Proofs.Ytnclfoljfnfglai
