import Derived.Test.YtnclfoljfnfglaiTmF3
import Derived.Test.YtnclfoljfnfglaiTmLft
namespace Go.Proofs.Ytnclfoljfnfglai
open Go.RowKit Go.Maps
set_option linter.unusedVariables false

/-! ## The reference's Hold, Go, Count -/
theorem IR.base {w : World} {base base' : Nat} {v : Value} {l : List Int} (h : IR w base v l) (hb : base' ≤ base) : IR w base' v l := by
  obtain ⟨h1, h2 | ⟨g, cap, cur, h3, h4, r⟩⟩ := h
  · exact ⟨h1, .inl h2⟩
  · exact ⟨h1, .inr ⟨g, cap, cur, h3, by omega, r⟩⟩
/-- A new list of peers is laid into the table; it is the old one grown, or a new one. -/
theorem Rf.setH {w wr : World} {pr : Nat} {Fp : Nat → Prop} {R : Tl} {Hs Hs' : List Int} {v vl vh : Value} (h1 : w.heap[pr]? = some (.cells #[vl, vh] 85 (0, 0))) (h2 : TR w (pr + 1) vl R) (hne : ∀ g, vl.ownBlock = some g → vh.ownBlock ≠ some g) (hpv : vh.ownBlock ≠ some pr) (hg : w.grownBy wr vh.ownBlock) (hv : IR wr (pr + 1) v Hs') (hvb : v.ownBlock = vh.ownBlock ∨ ∀ g, v.ownBlock = some g → w.heap.size ≤ g) (hFl : ∀ g, vl.ownBlock = some g → Fp g) (hFh : ∀ g, vh.ownBlock = some g → Fp g) :
    Rf (wr.setCell ⟨pr, 1, none⟩ v) pr (grF Fp w (wr.setCell ⟨pr, 1, none⟩ v)) R Hs' ∧ Kq (fun g => g = pr ∨ Fp g) w (wr.setCell ⟨pr, 1, none⟩ v) := by
  have hl : pr < w.heap.size := (Array.getElem?_eq_some_iff.1 h1).1
  have K1 : Kq (· = pr) wr (wr.setCell ⟨pr, 1, none⟩ v) := (Kq.refl _ _).setC ⟨pr, 1, none⟩ v (.inl rfl)
  have h1' : wr.heap[pr]? = some (.cells #[vl, vh] 85 (0, 0)) := (hg.block pr hl (fun e => hpv e.symm)).trans h1
  have h2' : TR wr (pr + 1) vl R := h2.keep (S := fun g => vh.ownBlock = some g) ((Kq.refl _ _).grown hg (fun g hg => .inl hg)) (fun g hg e => hne g hg e)
  have h2'' : TR (wr.setCell ⟨pr, 1, none⟩ v) (pr + 1) vl R := h2'.keep K1 (fun g hg e => by have e' : g = pr := e; have := (World.ownsRow.lt h2' g hg).1; omega)
  have hv' : IR (wr.setCell ⟨pr, 1, none⟩ v) (pr + 1) v Hs' := IR.keep hv K1 (fun g hg e => by have e' : g = pr := e; have := (World.ownsRow.lt hv g hg).1; omega)
  refine ⟨⟨vl, v, heap_setCell_same wr pr 1 _ _ v h1', h2'', hv', fun g hg' e => ?_, fun g hg => .inl (hFl g hg), fun g hg => ?_⟩, ?_⟩
  · rcases hvb with q | q
    · exact hne g hg' (q ▸ e)
    · have q1 := q g e
      have q2 := (World.ownsRow.lt h2 g hg').2
      omega
  · rcases hvb with q | q
    · exact .inl (hFh g (q ▸ hg))
    · exact .inr ⟨q g hg, (World.ownsRow.lt hv' g hg).2⟩
  · exact ((Kq.refl _ _).grown hg (fun g hg => .inl (.inr (hFh g hg)))).setC ⟨pr, 1, none⟩ v (.inl (.inl rfl))

set_option maxHeartbeats 4000000 in
set_option maxRecDepth 100000 in
theorem hold2_any (pr : Nat) (Fp : Nat → Prop) (R : Tl) (Hs : List Int) (p : Int) (w : World) (h : Rf w pr Fp R Hs) (hl : Hs.length < 2199023255552) :
    Calls Try.prog 47 #[.pointer (some ⟨pr, 0, none⟩), .int .i64 p] w fun e w' => e = .returned (.tuple #[]) ∧ Rf w' pr (grF Fp w w') R (if p ∈ Hs then Hs else Hs ++ [p]) ∧ Kq (fun g => g = pr ∨ Fp g) w w' := by
  have hH := held2_any pr Fp R Hs p w h hl
  have HR : Hid (Rf w pr Fp R Hs) := h
  have hlt := h.lt
  obtain ⟨vl, vh, h1, h2, h3, h4, h5, h6⟩ := h.ex
  obtain ⟨ah, ch, rfl⟩ := IR.shape h3
  obtain ⟨m, hm⟩ : ∃ m, Hs.length = m := ⟨_, rfl⟩
  have HM : Hid (Hs.length = m) := hm
  rw [hm] at h1 h3 h4 h6 hl
  have H5 : Hid (∀ g, vl.ownBlock = some g → Fp g) := h5
  have H6 : Hid (∀ g, (Value.slice ah m ch).ownBlock = some g → Fp g) := h6
  have c5 : w.cell? ⟨pr, 1, none⟩ = some (.slice ah m ch) := by simp [World.cell?, h1]
  have f5 : w.frozen? ⟨pr, 1, none⟩ = false := frozen_of_row w pr 1 _ _ h1
  have H1 : Hid (w.heap[pr]? = some (.cells #[vl, .slice ah m ch] 85 (0, 0))) := h1
  have H2 : Hid (TR w (pr + 1) vl R) := h2
  have H3 : Hid (IR w (pr + 1) (.slice ah m ch) Hs) := h3
  have H4 : Hid (∀ g, vl.ownBlock = some g → (Value.slice ah m ch).ownBlock ≠ some g) := h4
  obtain ⟨i1, hi1, hy0, hy1, hy2⟩ := info_parts Try.pinfo_int
  obtain ⟨b, hb⟩ : ∃ b, decide (p ∈ Hs) = b := ⟨_, rfl⟩
  rw [hb] at hH
  have HB : Hid (decide (p ∈ Hs) = b) := hb
  clear h h1 h2 h3 h4 h5 h6 hm hb
  go_enter Try.func47, Try.ntmps47
  go_wp2_with fail
  refine hH.mono ?_
  rintro e w1 ⟨rfl, hw1⟩
  rw [hw1]
  clear hw1 w1 hH
  cases b with
  | true =>
    have hin := of_decide_eq_true HB.out
    go_wp2
    go_end0
    obtain ⟨ul, uh, q1, q2, q3, q4, q5, q6⟩ := HR.out.ex
    exact ⟨rfl, ⟨ul, uh, q1, q2, q3, q4, fun g hg => .inl (q5 g hg), fun g hg => .inl (q6 g hg)⟩, Kq.refl _ _⟩
  | false =>
    have hin := of_decide_eq_false HB.out
    have HIn : Hid (p ∉ Hs) := hin
    clear hin
    go_wp2_with (first
      | (at_builtin; refine wpList_append_own_at _ rfl _ _ 31 rfl (pr + 1) 3 i1 (.int .i64 0) 1 8 Try.underlying31 hi1 hy0 hy1 hy2 rfl (by decide) (.slice ah m ch) Hs.length (Hs.map (Value.int .i64)) rfl (World.ownsRow.alloc H3.out _) ⟨w.heap.size, 0, none⟩ 1 1 [.int .i64 p] rfl rfl (one_new _ _ _) (by simp [Value.oneCell']) (by unfold maxLen; have := HM.out; omega) (by have := HM.out; omega) (by simp; omega) ?_
         intro v8 w8 hown8 hgrow8 hnil8 hloc8; clear hnil8
         have G8 : w.grownBy w8 (Value.slice ah m ch).ownBlock := (World.grownBy_alloc w _ _).trans hgrow8
         have hb8 : w8.heap[pr]? = w.heap[pr]? := G8.block pr hlt (fun e => by have := (World.ownsRow.lt H3.out pr e.symm).1; omega)
         have y1 : w8.cell? ⟨pr, 1, none⟩ = some (.slice ah m ch) := (World.cell?_of_block (a := ⟨pr, 1, none⟩) hb8).trans c5
         have fy1 : w8.frozen? ⟨pr, 1, none⟩ = false := (World.frozen?_of_block (a := ⟨pr, 1, none⟩) hb8).trans f5
         have HO8 : Hid (IR w8 (pr + 1) v8 (Hs ++ [p])) := IR.app hown8
         have HG8 : Hid (w.grownBy w8 (Value.slice ah m ch).ownBlock ∧ (v8.ownBlock = (Value.slice ah m ch).ownBlock ∨ ∀ g, v8.ownBlock = some g → w.heap.size ≤ g)) := ⟨G8, hloc8.imp id (fun e g hg => by rw [e] at hg; cases hg; simp)⟩
         clear hown8 hgrow8 hloc8 G8 hb8
         obtain ⟨g8, cap8, hv8, _, _⟩ := IR.some HO8.out (by simp)
         obtain ⟨m8, hm8⟩ : ∃ m, (Hs ++ [p]).length = m := ⟨_, rfl⟩
         rw [hm8] at hv8
         subst hv8
         clear hm8)
      | go_in)
    go_end0
    have hst := Rf.setH H1.out H2.out H4.out (fun e => by have := (World.ownsRow.lt H3.out pr e).1; omega) HG8.out.1 HO8.out HG8.out.2 H5.out H6.out (Fp := Fp) (Hs := Hs)
    exact ⟨rfl, hst.1, hst.2⟩

theorem new2_any (w : World) : Calls Try.prog 20 #[] w fun e w' => e = .returned (.pointer (some ⟨w.heap.size, 0, none⟩)) ∧ Rf w' w.heap.size (fun _ => False) [] [] ∧ Below w.heap.size w w' ∧ w'.heap.size = w.heap.size + 1 := by
  go_enter Try.func20, Try.ntmps20
  go_wp2
  go_ret
  refine ⟨rfl, ⟨.slice none 0 0, .slice none 0 0, (MapKept.heap_alloc _ _).1, tr_nil _ _, World.ownsRow_nil _ _ _ _, fun g hg => by simp [Value.ownBlock] at hg, fun g hg => by simp [Value.ownBlock] at hg, fun g hg => by simp [Value.ownBlock] at hg⟩, (Below.refl _ _).alloc (Nat.le_refl _) _, by simp⟩
theorem count2_any (pr : Nat) (Fp : Nat → Prop) (R : Tl) (Hs : List Int) (w : World) (h : Rf w pr Fp R Hs) :
    Calls Try.prog 52 #[.pointer (some ⟨pr, 0, none⟩)] w fun e w' => e = .returned (.int .i64 R.length) ∧ w' = w := by
  obtain ⟨vl, vh, h1, h2, _⟩ := h.ex
  obtain ⟨al, cl, rfl⟩ := h2.shape
  obtain ⟨m, hm⟩ : ∃ m, R.length = m := ⟨_, rfl⟩
  rw [hm] at h1 ⊢
  have c5 : w.cell? ⟨pr, 0, none⟩ = some (.slice al m cl) := by simp [World.cell?, h1]
  clear h h1 h2 hm
  go_enter Try.func52, Try.ntmps52
  go_wp2
  go_ret
  exact ⟨rfl, rfl⟩
set_option maxHeartbeats 4000000 in
set_option maxRecDepth 100000 in
theorem left2_any (pr : Nat) (Fp : Nat → Prop) (R : Tl) (Hs : List Int) (k : Kx) (w : World) (h : Rf w pr Fp R Hs) (hl : R.length < 2199023255552) (hw : ∀ x ∈ R, kW x.1) (hk : kW k) (hnd : (R.map Prod.fst).Nodup) :
    Calls Try.prog 51 #[.pointer (some ⟨pr, 0, none⟩), kA k] w fun e w' => e = .returned (.tuple #[.int .i64 (lftT R k), .bool (decide (k ∈ R.map Prod.fst))]) ∧ Below w.heap.size w w' := by
  have HR : Hid (Rf w pr Fp R Hs) := h
  obtain ⟨W, hW⟩ : ∃ W, w.alloc (kO k) = W := ⟨_, rfl⟩
  have hbW : Below w.heap.size w W := by rw [← hW]; exact (Below.refl _ _).alloc (Nat.le_refl _) _
  have HBW : Hid (Below w.heap.size w W) := hbW
  have hRW : Rf W pr Fp R Hs := h.keep (S := fun _ => False) (Kq.of_below hbW) (fun _ h => h.elim)
  have hF := find_any pr Fp R Hs k W hRW hl hw hk
  obtain ⟨m, hm⟩ : ∃ m, R.length = m := ⟨_, rfl⟩
  have HM : Hid (R.length = m) := hm
  rw [hm] at hl
  have hlt := h.lt
  have HNd : Hid (R.map Prod.fst).Nodup := hnd
  obtain ⟨k0, k1, k2, k3, k4⟩ := k
  have c0 : W.cell? ⟨w.heap.size, 0, none⟩ = some (.int .i64 k0) := by rw [← hW]; simp
  have c1 : W.cell? ⟨w.heap.size, 1, none⟩ = some (.int .i64 k1) := by rw [← hW]; simp
  have c2 : W.cell? ⟨w.heap.size, 2, none⟩ = some (.int .i64 k2) := by rw [← hW]; simp
  have c3 : W.cell? ⟨w.heap.size, 3, none⟩ = some (.int .i64 k3) := by rw [← hW]; simp
  have c4 : W.cell? ⟨w.heap.size, 4, none⟩ = some (.int .i64 k4) := by rw [← hW]; simp
  clear h hw hm hnd hbW hRW
  go_enter Try.func51, Try.ntmps51
  go_wp2_with fail
  refine hF.mono ?_
  rintro e w2 ⟨hor, hb2⟩
  have HB2 : Hid (Below w.heap.size w w2) := HBW.out.trans ⟨hb2.os, hb2.tape, hb2.output, hb2.size, fun g hg => hb2.block g (by have := HBW.out.size; omega)⟩
  clear hb2 hF hW
  rcases hor with ⟨i, rfl, ⟨c, hc⟩, _⟩ | ⟨rfl, hno⟩
  · have hki : (R.map Prod.fst)[i]? = some (k0, k1, k2, k3, k4) := by rw [List.getElem?_map, hc]; rfl
    have HD : Hid (decide ((k0, k1, k2, k3, k4) ∈ R.map Prod.fst) = true) := decide_eq_true (List.mem_of_getElem? hki)
    have HL : Hid (lftT R (k0, k1, k2, k3, k4) = c) := lft_in HNd.out (List.mem_of_getElem? hc)
    have hRr : Rf w2 pr Fp R Hs := HR.out.keep (S := fun _ => False) (Kq.of_below HB2.out) (fun _ h => h.elim)
    obtain ⟨vl, vh, h1, h2, _⟩ := hRr.ex
    have him : i < m := by rw [← HM.out]; exact (List.getElem?_eq_some_iff.mp hc).1
    obtain ⟨gk, capk, ek, _, _⟩ := h2.some (by rw [HM.out]; omega)
    subst ek
    obtain ⟨_, _, _, _, _, q5⟩ := h2.cells hc
    rw [HM.out] at h1
    have e5 : w2.cell? ⟨pr, 0, none⟩ = some (.slice (some ⟨gk, 0, none⟩) m capk) := by simp [World.cell?, h1]
    have hz : (i : Int) < (m : Int) := by omega
    have hz0 : ¬ (i : Int) < 0 := by omega
    simp only at q5
    clear hRr h1 h2 hki hc
    go_wp2
    refine bodyPost_ret (v := .tuple #[.int .i64 c, .bool true]) (by simp [results, Try.results51, go_sem]) rfl ?_
    exact ⟨by rw [HD.out, HL.out], HB2.out⟩
  · have HD : Hid (decide ((k0, k1, k2, k3, k4) ∈ R.map Prod.fst) = false) := decide_eq_false hno
    have HL : Hid (lftT R (k0, k1, k2, k3, k4) = 0) := lft_out hno
    clear hno
    go_wp2
    refine bodyPost_ret (v := .tuple #[.int .i64 0, .bool false]) (by simp [results, Try.results51, go_sem]) rfl ?_
    exact ⟨by rw [HD.out, HL.out], HB2.out⟩

end Go.Proofs.Ytnclfoljfnfglai
