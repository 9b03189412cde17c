import Derived.Test.YtdfdaambfihjaaaDoorLnC
namespace Go.Proofs.YtdfdaambfihjaaaDoor
open Go.RowKit
set_option linter.unusedVariables false
set_option linter.unusedSimpArgs false

theorem ln_nz {w : World} {base n sz : Nat} {e : TypeId} {a : Option Addr} {c : Nat} {xs : List Value} (h : w.ownsRow base e sz (.slice a n c) n xs) (hn : 0 < n) : ∃ g, a = some ⟨g, 0, none⟩ := by
  obtain ⟨_, ⟨e1, e0⟩ | ⟨g, cap, cur, e1, _⟩⟩ := h
  · omega
  · simp only [Value.slice.injEq] at e1
    exact ⟨g, e1.1⟩
theorem ln_set (ys : List Xr) (x y : Xr) (r : List Xr) (ht : y.tag = x.tag) : ((ys ++ x :: r).flatMap Xr.cells).set (ys.length * 2 + 1) y.val = (ys ++ y :: r).flatMap Xr.cells := by
  have hl := flat_len Xr.cells (fun _ => rfl) ys
  rw [List.flatMap_append, List.flatMap_append, List.set_append_right _ _ (by omega), hl, show ys.length * 2 + 1 - ys.length * 2 = 1 by omega, List.flatMap_cons, List.flatMap_cons]
  simp [Xr.cells, ht]
theorem ln_at (ys : List Xr) (x : Xr) (r : List Xr) : ((ys ++ x :: r).flatMap Xr.cells)[ys.length * 2 + 1]? = some x.val := by
  have hl := flat_len Xr.cells (fun _ => rfl) ys
  rw [List.flatMap_append, List.getElem?_append_right (by omega), hl, show ys.length * 2 + 1 - ys.length * 2 = 1 by omega, List.flatMap_cons]
  simp [Xr.cells]

/-- So far the extensions' own lists were copied. -/
structure LnS (w wr : World) (a : Option Addr) (c : Nat) (xs ys : List Xr) : Prop where
  row : wr.ownsRow w.heap.size 93 2 (.slice a xs.length c) xs.length ((ys ++ xs.drop ys.length).flatMap Xr.cells)
  ex : ys.map Xr.ex = (xs.take ys.length).map Xr.ex
  data : ∀ y ∈ ys, y.Own wr w.heap.size
  apart : ∀ y ∈ ys, ∀ k, y.val.ownBlock = some k → (Value.slice a xs.length c).ownBlock ≠ some k
  nodup : (ys.filterMap fun y => y.val.ownBlock).Nodup
  low : Below w.heap.size w wr

theorem LnS.step {w wr w2 : World} {a : Option Addr} {c g : Nat} {xs ys : List Xr} {x : Xr} {ad : Option Addr} {cd : Nat} (h : LnS w wr a c xs ys) (hx : xs[ys.length]? = some x) (ha : a = some ⟨g, 0, none⟩) (ho : w2.ownsRow wr.heap.size 5 1 (.slice ad x.data.length cd) x.data.length (x.data.map (Value.int .u8))) (hb : Below wr.heap.size wr w2)
    (hok : Bytey x.data ∧ x.data.length ≤ 70000 ∧ 0 ≤ x.tag ∧ x.tag ≤ 255) : LnS w (w2.setCell ⟨g, ys.length * 2 + 1, none⟩ (.slice ad x.data.length cd)) a c xs (ys ++ [⟨x.tag, ad, cd, x.data⟩]) := by
  subst ha
  have hlt : ys.length < xs.length := (List.getElem?_eq_some_iff.mp hx).1
  have hgl : w.heap.size ≤ g ∧ g < wr.heap.size := h.row.lt g rfl
  have hdr : xs.drop ys.length = x :: xs.drop (ys.length + 1) := drop_get xs ys.length x hx
  have gw : wr.grownBy w2 none := ⟨hb.os, hb.tape, hb.output, hb.size, fun k hk _ => hb.block k hk⟩
  have r1 := h.row
  rw [hdr] at r1
  have r2 : w2.ownsRow w.heap.size 93 2 (.slice (some ⟨g, 0, none⟩) xs.length c) xs.length ((ys ++ x :: xs.drop (ys.length + 1)).flatMap Xr.cells) := own_keep r1 gw (by simp)
  have r3 := (World.ownsRow.stored r2 (ys.length * 2 + 1) (.slice ad x.data.length cd)).1
  have e3 := ln_set ys x ⟨x.tag, ad, cd, x.data⟩ (xs.drop (ys.length + 1)) rfl
  have e3' : ((ys ++ x :: xs.drop (ys.length + 1)).flatMap Xr.cells).set (ys.length * 2 + 1) (.slice ad x.data.length cd) = (ys ++ ⟨x.tag, ad, cd, x.data⟩ :: xs.drop (ys.length + 1)).flatMap Xr.cells := e3
  rw [e3'] at r3
  have hnw : ∀ k, (Value.slice ad x.data.length cd).ownBlock = some k → wr.heap.size ≤ k := fun k hk => (ho.lt k hk).1
  refine ⟨?_, ?_, fun y hy => ?_, fun y hy k hk => ?_, ?_, ?_⟩
  · rw [List.length_append, List.length_singleton, List.append_assoc]
    exact r3
  · rw [List.length_append, List.length_singleton, List.map_append, h.ex, List.take_add_one, hx, List.map_append]
    rfl
  · rcases List.mem_append.mp hy with hy | hy
    · have d := h.data y hy
      exact ⟨own_keep (own_keep d.row gw (by simp)) (grown_set _ _ _ _) (fun k hk e => by simp at e; subst e; exact h.apart y hy _ hk rfl), d.bytes, d.small, d.tag⟩
    · simp at hy
      subst hy
      exact ⟨own_base (own_keep ho (grown_set _ _ _ _) (fun k hk e => by have := hnw k hk; simp at e; omega)) (by omega), hok.1, hok.2.1, hok.2.2⟩
  · rcases List.mem_append.mp hy with hy | hy
    · exact h.apart y hy k hk
    · simp at hy
      subst hy
      have := hnw k hk
      intro e
      have e' : g = k := by simpa [Value.ownBlock] using e
      omega
  · rw [List.filterMap_append]
    refine List.nodup_append.mpr ⟨h.nodup, ?_, fun p hp q hq e => ?_⟩
    · cases hq : (Xr.mk x.tag ad cd x.data).val.ownBlock <;> simp [List.filterMap_cons, hq]
    · obtain ⟨y, hy, e1⟩ := List.mem_filterMap.mp hp
      obtain ⟨z, hz, e2⟩ := List.mem_filterMap.mp hq
      simp at hz
      subst hz
      have h1 := ((h.data y hy).row.lt p e1).2
      have h2 := hnw q e2
      omega
  · exact (h.low.trans (hb.mono h.low.size)).setCell (by show w.heap.size ≤ g; exact hgl.1) _

set_option maxRecDepth 100000 in
set_option maxHeartbeats 4000000 in
/-- lines.copyOfExts: extensions in memory of their own. -/
theorem lnX_any {v : Value} {xs : List Xr} {w : World} (h : XIn w v xs) (hok : ∀ x ∈ xs, x.data.length ≤ 70000 ∧ 0 ≤ x.tag ∧ x.tag ≤ 255) :
    Calls Tryd.prog 59 #[v] w fun e w' => ∃ a c ys, e = .returned (.slice a xs.length c) ∧ XOwn w' w.heap.size (.slice a xs.length c) ys ∧ ys.length = xs.length ∧ ys.map Xr.ex = xs.map Xr.ex ∧ Below w.heap.size w w' := by
  have hE := lnE_any h
  have hsm := h.small
  have HD : Hid (∀ V, Below w.heap.size w V → ∀ x ∈ xs, BIn V x.val x.data) := fun V hV x hx => (h.data x hx).below hV
  have HOk : Hid (∀ x ∈ xs, Bytey x.data ∧ x.data.length ≤ 70000 ∧ 0 ≤ x.tag ∧ x.tag ≤ 255) := fun x hx => ⟨(h.data x hx).bytes, (hok x hx).1, (hok x hx).2⟩
  obtain ⟨a0, c0, rfl, _⟩ := h.shape
  obtain ⟨n, hn⟩ : ∃ n, xs.length = n := ⟨_, rfl⟩
  have HN : Hid (xs.length = n) := hn
  rw [hn] at hsm hE ⊢
  clear h hok hn
  go_enter Tryd.func59, Tryd.ntmps59
  go_wp2_with fail
  refine hE.mono ?_
  rintro e w1 ⟨a, c, rfl, ho, hb⟩
  have HS0 : Hid (LnS w w1 a c xs []) := by
    refine ⟨?_, rfl, fun _ h => (by cases h), fun _ h => (by cases h), List.nodup_nil, hb⟩
    rw [HN.out]; simpa using ho
  clear ho hb hE
  go_wp2_with fail
  go_loopw [8] (fun i wr => ∃ (k : Nat), k ≤ n ∧ i = .int .i64 k ∧ Hid (∃ ys, ys.length = k ∧ LnS w wr a c xs ys)) (fun i _ => n - (intOf i).toNat)
  case atStart => exact ⟨0, by omega, rfl, [], rfl, HS0.out⟩
  case round =>
    obtain ⟨k, hk, rfl, HJ⟩ := hrel
    clear HS0
    obtain ⟨ys, hyl, hS⟩ := HJ.out
    by_cases hlt : k < n
    · have hlt' : (k : Int) < (n : Int) := by omega
      have hwk : IntKind.i64.wrap ((k : Int) + 1) = (k : Int) + 1 := by rw [IntKind.wrap_i64]; omega
      obtain ⟨x, hx⟩ := get_one xs k (by rw [HN.out]; exact hlt)
      have HX : Hid (xs[k]? = some x ∧ x ∈ xs) := ⟨hx, List.mem_of_getElem? hx⟩
      have hrow := hS.row
      obtain ⟨g, hg⟩ := ln_nz hrow (by rw [HN.out]; omega)
      subst hg
      rw [hyl, drop_get xs k x hx, HN.out] at hrow
      have hat := ln_at ys x (xs.drop (k + 1))
      rw [hyl] at hat
      have hce : wr.cell? ⟨g, k * 2 + 1, none⟩ = some (.slice x.adr x.data.length x.cap) := (World.ownsRow.cellAt hrow _ (by omega)).trans hat
      have hgl := (hrow.lt g rfl)
      have HGl : Hid (w.heap.size ≤ g ∧ g < wr.heap.size) := hgl
      have hB := lnB_any (HD.out wr hS.low x HX.out.2)
      have hxv : x.val = .slice x.adr x.data.length x.cap := rfl
      rw [hxv] at hB
      have HS : Hid (LnS w wr (some ⟨g, 0, none⟩) c xs ys ∧ ys.length = k) := ⟨hS, hyl⟩
      have HRo : Hid (wr.ownsRow w.heap.size 93 2 (.slice (some ⟨g, 0, none⟩) n c) n ((ys ++ x :: xs.drop (k + 1)).flatMap Xr.cells)) := hrow
      have HXd : Hid (x.data.length = x.data.length) := rfl
      obtain ⟨d, hd⟩ : ∃ d, x.data.length = d := ⟨_, rfl⟩
      have HDl : Hid (x.data.length = d) := hd
      rw [hd] at hce hB
      clear hx hS hyl hrow hat hxv hgl HJ hd
      generalize x.adr = xa at *
      generalize x.cap = xc at *
      go_wp2_with fail
      refine hB.mono ?_
      rintro e w2 ⟨ad, cd, rfl, ho, hb2⟩
      have hc2 : w2.cell? ⟨g, k * 2 + 1, none⟩ = some (.slice xa d xc) := (hb2.cell (p := ⟨g, k * 2 + 1, none⟩) HGl.out.2).trans hce
      have hf2 : w2.frozen? ⟨g, k * 2 + 1, none⟩ = false := by
        obtain ⟨_, ⟨e1, _⟩ | ⟨g', cap, cur, e1, _, q1, _⟩⟩ := HRo.out
        · cases e1
        · simp only [Value.slice.injEq, Option.some.injEq, Addr.mk.injEq] at e1
          obtain ⟨⟨rfl, _⟩, _⟩ := e1
          exact frozen_of_row _ _ _ _ _ ((hb2.block _ HGl.out.2).trans q1)
      have HR : Hid (∃ ys', ys'.length = k + 1 ∧ LnS w (w2.setCell ⟨g, k * 2 + 1, none⟩ (.slice ad d cd)) (some ⟨g, 0, none⟩) c xs ys') := by
        have hst := HS.out.1.step (x := x) (ad := ad) (cd := cd) (g := g) (w2 := w2) (by rw [HS.out.2]; exact HX.out.1) rfl (by rw [HDl.out]; exact ho) hb2 (HOk.out x HX.out.2)
        rw [HS.out.2, HDl.out] at hst
        exact ⟨_, by rw [List.length_append, HS.out.2]; rfl, hst⟩
      clear ho hb2 hce hB
      go_wp2
      go_roundw
      case rel => first | exact ⟨k + 1, by omega, by go_num, HR⟩ | exact ⟨k + 1, by omega, by omega, HR⟩
      case measure => simp [intOf]; omega
    · have hlt' : ¬ (k : Int) < (n : Int) := by omega
      have hkn : k = n := by omega
      have HE : Hid (∃ ys, XOwn wr w.heap.size (.slice a n c) ys ∧ ys.length = n ∧ ys.map Xr.ex = xs.map Xr.ex ∧ Below w.heap.size w wr) := by
        have e1 : xs.drop ys.length = [] := List.drop_of_length_le (by rw [HN.out]; omega)
        have e2 : xs.take ys.length = xs := List.take_of_length_le (by rw [HN.out]; omega)
        have hr := hS.row
        have hap := hS.apart
        rw [e1, List.append_nil, HN.out] at hr
        rw [HN.out] at hap
        have hex := hS.ex
        rw [e2] at hex
        exact ⟨ys, ⟨by rw [hyl, hkn]; exact hr, hS.data, fun x hx k hk => hap x hx k hk, hS.nodup⟩, by omega, hex, hS.low⟩
      clear hS hyl HJ
      go_wp2
      go_ret
      obtain ⟨ys, h1, h2, h3, h4⟩ := HE.out
      first | exact ⟨a, c, ys, rfl, h1, h2, h3, h4⟩ | exact ⟨a, c, rfl, ys, h1, h2, h3, h4⟩

end Go.Proofs.YtdfdaambfihjaaaDoor
