import Derived.Test.YtnclfoljfnfglaiTmF4
namespace Go.Proofs.Ytnclfoljfnfglai
open Go.RowKit Go.Maps
set_option linter.unusedVariables false

/-! ## The reference's Go -/
def outH (Hs : List Int) (p : Int) : List Int := Hs.filter fun x => decide (x ≠ p)
set_option maxHeartbeats 8000000 in
set_option maxRecDepth 100000 in
theorem go2_any (pr : Nat) (Fp : Nat → Prop) (R : Tl) (Hs : List Int) (p : Int) (w : World) (h : Rf w pr Fp R Hs) (hl : Hs.length < 2199023255552) :
    Calls Try.prog 48 #[.pointer (some ⟨pr, 0, none⟩), .int .i64 p] w fun e w' => e = .returned (.tuple #[]) ∧ Rf w' pr (grF Fp w w') R (outH Hs p) ∧ Kq (fun g => g = pr ∨ Fp g) w w' := by
  have HR : Hid (Rf w pr Fp R Hs) := h
  obtain ⟨m, hm⟩ : ∃ m, Hs.length = m := ⟨_, rfl⟩
  have HM : Hid (Hs.length = m) := hm
  rw [hm] at hl
  have hlt := h.lt
  obtain ⟨i1, hi1, hy0, hy1, hy2⟩ := info_parts Try.pinfo_int
  clear h hm
  go_enter Try.func48, Try.ntmps48
  go_wp2
  go_loopw [4, 5] (fun u v wr => ∃ j : Nat, v = .int .i64 j ∧ j ≤ m ∧ IR wr w.heap.size u (outH (Hs.take j) p) ∧ Below w.heap.size w wr) (fun _ v _ => m - (intOf v).toNat)
  case atStart => exact ⟨0, rfl, by omega, World.ownsRow_nil _ _ _ _, Below.refl _ _⟩
  case round =>
    obtain ⟨j, rfl, hj, htr, hbr⟩ := hrel
    have HTr : Hid (IR wr w.heap.size u4 (outH (Hs.take j) p)) := htr
    have HBr : Hid (Below w.heap.size w wr) := hbr
    clear htr hbr
    have hRr : Rf wr pr Fp R Hs := HR.out.keep (S := fun _ => False) (Kq.of_below HBr.out) (fun _ h => h.elim)
    obtain ⟨vl, vh, h1, h2, h3, _⟩ := hRr.ex
    obtain ⟨ah, ch, rfl⟩ := IR.shape h3
    rw [HM.out] at h1 h3
    have e5 : wr.cell? ⟨pr, 1, none⟩ = some (.slice ah m ch) := by simp [World.cell?, h1]
    have fz5 : wr.frozen? ⟨pr, 1, none⟩ = false := frozen_of_row wr pr 1 _ _ h1
    have HT2 : Hid (IR wr (pr + 1) (.slice ah m ch) Hs) := h3
    obtain ⟨mu, hmu⟩ : ∃ n, List.length (outH (Hs.take j) p) = n := ⟨_, rfl⟩
    have HMu : Hid (List.length (outH (Hs.take j) p) = mu) := hmu
    have hml : mu ≤ j := by rw [← hmu]; exact Nat.le_trans (List.length_filter_le _ _) (by rw [List.length_take]; exact Nat.min_le_left _ _)
    have hbs : w.heap.size ≤ wr.heap.size := HBr.out.size
    clear hRr h1 h2 h3 hmu
    by_cases hjm : j = m
    · subst hjm
      have hz : ¬ (j : Int) < (j : Int) := by omega
      have htk : Hs.take j = Hs := by rw [← HM.out, List.take_length]
      rw [htk] at HTr
      obtain ⟨au, cu, hu⟩ := IR.shape HTr.out
      obtain ⟨nu, hnu⟩ : ∃ n, List.length (outH Hs p) = n := ⟨_, rfl⟩
      rw [hnu] at hu
      subst hu
      obtain ⟨ul, uh, q1, q2, q3, q4, q5, q6⟩ := HR.out.ex
      have hst := Rf.setH (Fp := Fp) (Hs := Hs) (wr := wr) (v := .slice au nu cu) (Hs' := outH Hs p) q1 q2 q4 (fun e => by have := (World.ownsRow.lt q3 pr e).1; omega) ⟨HBr.out.os, HBr.out.tape, HBr.out.output, HBr.out.size, fun g hg _ => HBr.out.block g hg⟩ (IR.base HTr.out (by omega)) (.inr (fun g hg => (World.ownsRow.lt HTr.out g hg).1)) q5 q6
      have HSt : Hid _ := hst
      clear hst htk hnu q1 q2 q3 q4 q5 q6
      go_wp2
      go_end0
      exact ⟨rfl, HSt.out.1, HSt.out.2⟩
    · have hz : (j : Int) < (m : Int) := by omega
      have hwj : IntKind.i64.wrap ((j : Int) + 1) = (j : Int) + 1 := by rw [IntKind.wrap_i64]; omega
      obtain ⟨x, hx⟩ : ∃ x, Hs[j]? = some x := ⟨_, List.getElem?_eq_getElem (by rw [HM.out]; omega)⟩
      have htk : Hs.take (j + 1) = Hs.take j ++ [x] := by rw [List.take_add_one, hx]; rfl
      obtain ⟨gl, capl, el, _, _⟩ := IR.some HT2.out (by rw [HM.out]; omega)
      obtain ⟨rfl, hmm, rfl⟩ : ah = some ⟨gl, 0, none⟩ ∧ m = Hs.length ∧ ch = capl := by simpa using el
      have q0 := IR.cell HT2.out hx
      by_cases hxp : x = p
      · have e8 : outH (Hs.take (j + 1)) p = outH (Hs.take j) p := by
          rw [htk]
          unfold outH
          rw [List.filter_append]
          simp [hxp]
        have HE8 : Hid _ := e8
        clear hx el hmm htk e8
        subst hxp
        go_wp2
        refine ⟨⟨j + 1, by simp, by omega, ?_, HBr.out⟩, by simp [intOf]; omega⟩
        rw [HE8.out]
        exact HTr.out
      · have e8 : outH (Hs.take (j + 1)) p = outH (Hs.take j) p ++ [x] := by
          rw [htk]
          unfold outH
          rw [List.filter_append]
          simp [hxp]
        have HE8 : Hid _ := e8
        clear hx el hmm htk e8
        go_wp2_with (first
          | (at_builtin; refine wpList_append_own_at _ rfl _ _ 31 rfl w.heap.size 3 i1 (.int .i64 0) 1 8 Try.underlying31 hi1 hy0 hy1 hy2 rfl (by decide) u4 (outH (Hs.take j) p).length ((outH (Hs.take j) p).map (Value.int .i64)) rfl (World.ownsRow.alloc HTr.out _) ⟨wr.heap.size, 0, none⟩ 1 1 [.int .i64 x] rfl rfl (one_new _ _ _) (by simp [Value.oneCell']) (by unfold maxLen; have := HMu.out; omega) (by have := HMu.out; omega) (by simp; omega) ?_
             intro v' w8 hown' hgrow hnil hloc; clear hnil)
          | go_in)
        have hgr8 := (World.grownBy_alloc wr (.cells #[.int .i64 x] 3) u4.ownBlock).trans hgrow
        have B8 : Below w.heap.size w w8 := ⟨hgr8.os.trans HBr.out.os, hgr8.tape.trans HBr.out.tape, hgr8.output.trans HBr.out.output, Nat.le_trans HBr.out.size hgr8.size, fun g hg => (hgr8.block g (by omega) (fun e => by have := (World.ownsRow.lt HTr.out g e.symm).1; omega)).trans (HBr.out.block g hg)⟩
        refine ⟨⟨j + 1, by simp, by omega, ?_, B8⟩, by simp [intOf]; omega⟩
        rw [HE8.out]
        exact IR.app hown'

end Go.Proofs.Ytnclfoljfnfglai
