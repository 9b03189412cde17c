import Derived.Test.YtllhbhogfffedaaGreatDoorRcRd6
import Derived.Deep.QuietTactic
import Derived.BigQuiet
import Derived.Maps.AppendAt
import Derived.Laws.AppendOwnNone
import Derived.Laws.OwnMore
import Derived.Deep.RegionLaw
import Derived.OrdersHeld
import Derived.OrdersIn
import Derived.TacticsIn
import Derived.RangeFuncCalls
import Derived.RangeFuncNested
namespace Go.Proofs.YtllhbhogfffedaaGreatDoor
open Go.RowKit
set_option linter.unusedVariables false
set_option linter.unusedSimpArgs false

/-! ## The reference's number -/
def nG (v : Int) (i : Int) : List Int → Option (Int × List Int)
  | [] => none
  | c :: r => if i = 0 ∧ c = 128 then none else if 36028797018963967 < v then none else if c < 128 then some (128 * v + c, r) else nG (128 * v + (c - 128)) (i + 1) r
theorem rdGo_ge : ∀ (zs : List Int) (v i n k : Int), Bytey zs → 0 ≤ v → rdGo v i zs = (n, k, 0) → 128 * v ≤ n
  | [], v, i, n, k, hb, hv, h => by simp [rdGo] at h
  | c :: r, v, i, n, k, hb, hv, h => by
    have hc := hb c (by simp)
    rw [rdGo] at h
    split at h
    · simp at h
    · split at h
      · simp at h
      · split at h
        · simp only [Prod.mk.injEq] at h; omega
        · have := rdGo_ge r _ _ n k (fun z hz => hb z (List.mem_cons_of_mem _ hz)) (by omega) h
          omega
theorem nG_eq : ∀ (zs : List Int) (v i : Int), Bytey zs → 0 ≤ v → 0 ≤ i → (if (rdGo v i zs).2.2 = 0 ∧ (rdGo v i zs).1 ≤ 4611686018427387903 then some ((rdGo v i zs).1, zs.drop ((rdGo v i zs).2.1 - i).toNat) else none) = nG v i zs ∧ ((rdGo v i zs).2.2 = 0 → i + 1 ≤ (rdGo v i zs).2.1)
  | [], v, i, hb, hv, hi => by simp [rdGo, nG]
  | c :: r, v, i, hb, hv, hi => by
    have hc := hb c (by simp)
    have hbr : Bytey r := fun z hz => hb z (List.mem_cons_of_mem _ hz)
    by_cases h1 : i = 0 ∧ c = 128
    · have e : rdGo v i (c :: r) = (0, 0, 11) := by rw [rdGo, if_pos h1]
      rw [e, nG, if_pos h1]
      simp
    · by_cases h2 : 144115188075855871 < v
      · have e : rdGo v i (c :: r) = (0, 0, 12) := by rw [rdGo, if_neg h1, if_pos h2]
        rw [e]
        refine ⟨?_, by simp⟩
        rw [if_neg (by simp), nG, if_neg h1, if_pos (by omega)]
      · by_cases h3 : c < 128
        · have e : rdGo v i (c :: r) = (v * 128 + c, i + 1, 0) := by rw [rdGo, if_neg h1, if_neg h2, if_pos h3]
          rw [e, nG, if_neg h1]
          refine ⟨?_, fun _ => by simp⟩
          simp only [true_and]
          by_cases h4 : 36028797018963967 < v
          · rw [if_pos h4, if_neg (by omega)]
          · rw [if_neg h4, if_pos h3, if_pos (by omega)]
            rw [show i + 1 - i = 1 by omega, show v * 128 + c = 128 * v + c by omega]
            rfl
        · have e : rdGo v i (c :: r) = rdGo (v * 128 + (c - 128)) (i + 1) r := by rw [rdGo, if_neg h1, if_neg h2, if_neg h3]
          obtain ⟨q1, q2⟩ := nG_eq r (v * 128 + (c - 128)) (i + 1) hbr (by omega) (by omega)
          rw [e, nG, if_neg h1]
          refine ⟨?_, fun h => by have := q2 h; omega⟩
          by_cases h4 : 36028797018963967 < v
          · rw [if_pos h4, if_neg]
            rintro ⟨h5, h6⟩
            have h7 := rdGo_ge r (v * 128 + (c - 128)) (i + 1) (rdGo (v * 128 + (c - 128)) (i + 1) r).1 (rdGo (v * 128 + (c - 128)) (i + 1) r).2.1 hbr (by omega) (by rw [← h5])
            omega
          · rw [if_neg h4, if_neg h3, show 128 * v + (c - 128) = v * 128 + (c - 128) by omega, ← q1]
            by_cases h5 : (rdGo (v * 128 + (c - 128)) (i + 1) r).2.2 = 0 ∧ (rdGo (v * 128 + (c - 128)) (i + 1) r).1 ≤ 4611686018427387903
            · rw [if_pos h5, if_pos h5]
              have h6 := q2 h5.1
              rw [show ((rdGo (v * 128 + (c - 128)) (i + 1) r).2.1 - i).toNat = ((rdGo (v * 128 + (c - 128)) (i + 1) r).2.1 - (i + 1)).toNat + 1 by omega]
              rfl
            · rw [if_neg h5, if_neg h5]
theorem numP_nG {zs : List Int} (hb : Bytey zs) : numP zs = nG 0 0 zs := by
  have h := (nG_eq zs 0 0 hb (by omega) (by omega)).1
  unfold numP rd
  rw [← h, Int.sub_zero]

theorem getD_b {cs : List Int} (h : Bytey cs) (k : Nat) (hk : k < cs.length) : 0 ≤ cs.getD k 0 ∧ cs.getD k 0 ≤ 255 := by
  rw [List.getD_eq_getElem?_getD, List.getElem?_eq_getElem hk]; exact h _ (List.getElem_mem hk)
/-- The reference's reader: its bytes, how far it is, is it bad? -/
abbrev r2O (sl : Value) (k : Nat) (b : Bool) : Obj := .cells #[sl, .int .i64 k, .bool b] 161
theorem r2_cells {W : World} {g : Nat} {sl : Value} {k : Nat} {b : Bool} (h : W.heap[g]? = some (r2O sl k b)) : W.cell? ⟨g, 0, none⟩ = some sl ∧ W.cell? ⟨g, 1, none⟩ = some (.int .i64 k) ∧ W.cell? ⟨g, 2, none⟩ = some (.bool b) ∧ ∀ j, W.frozen? ⟨g, j, none⟩ = false :=
  ⟨cell_of_row _ _ 0 _ _ _ h, cell_of_row _ _ 1 _ _ _ h, cell_of_row _ _ 2 _ _ _ h, fun j => by simp [World.frozen?, h]⟩

def N2Post (q : Option (Int × List Int)) (sl : Value) (n rb : Nat) (w : World) (e : Ending) (w' : World) : Prop :=
  (match q with
    | some (v, t) => e = .returned (.int .i64 v) ∧ w'.heap[rb]? = some (r2O sl (n - t.length) false)
    | none => e = .returned (.int .i64 0) ∧ ∃ k, k ≤ n ∧ w'.heap[rb]? = some (r2O sl k true)) ∧ w.grownBy w' (some rb)
set_option maxRecDepth 100000 in
set_option maxHeartbeats 4000000 in
theorem num2_any (rb g off n c k : Nat) (zs : List Int) (w : World) (hh : w.heap[rb]? = some (r2O (.slice (some ⟨g, off, none⟩) n c) k false)) (hl : zs.length = n) (hcell : ∀ i, i < n → w.cell? ⟨g, off + i, none⟩ = some (.int .u8 (zs.getD i 0))) (hk : k ≤ n) (hb : Bytey zs) (hm : n ≤ 140737488355328) (hne : g ≠ rb) :
    Calls Tryz.prog 92 #[.pointer (some ⟨rb, 0, none⟩)] w (N2Post (numP (zs.drop k)) (.slice (some ⟨g, off, none⟩) n c) n rb w) := by
  have HH : Hid (w.heap[rb]? = some (r2O (.slice (some ⟨g, off, none⟩) n c) k false)) := hh
  have HN : Hid (nG 0 ((0 : Nat) : Int) (zs.drop (k + 0)) = numP (zs.drop k)) := (numP_nG (bytey_drop hb k)).symm
  generalize numP (zs.drop k) = Q at *
  have HC : Hid (∀ W, w.grownBy W (some rb) → ∀ i, i < n → W.cell? ⟨g, off + i, none⟩ = some (.int .u8 (zs.getD i 0))) := fun W hW i hi => hW.cell (hcell i hi) (by simp; exact hne)
  have HB : Hid (Bytey zs) := hb
  have HL : Hid (zs.length = n) := hl
  clear hh hcell hb hl
  go_enter Tryz.func92, Tryz.ntmps92
  go_wp2_with fail
  go_loopw [3, 4] (fun nv i wr => ∃ (j : Nat) (v : Int), k + j ≤ n ∧ i = .int .i64 j ∧ nv = .int .i64 v ∧ 0 ≤ v ∧ v ≤ 4611686018427387903 ∧ nG v j (zs.drop (k + j)) = Q ∧ wr.heap[rb]? = some (r2O (.slice (some ⟨g, off, none⟩) n c) (k + j) false) ∧ w.grownBy wr (some rb)) (fun _ i _ => n - (intOf i).toNat)
  case atStart => exact ⟨0, 0, by omega, rfl, rfl, by omega, by omega, HN.out, HH.out, World.grownBy.refl _ _⟩
  case round =>
    obtain ⟨j, v, hkj, rfl, rfl, hv0, hv1, hng, hrh, hgr⟩ := hrel
    have HNG : Hid (nG v j (zs.drop (k + j)) = Q) := hng
    have HRH : Hid (wr.heap[rb]? = some (r2O (.slice (some ⟨g, off, none⟩) n c) (k + j) false)) := hrh
    have HGR : Hid (w.grownBy wr (some rb)) := hgr
    obtain ⟨s0, s1, s2, sf⟩ := r2_cells hrh
    have f2 := sf 2
    have f1 := sf 1
    clear hng hrh hgr HH HN sf
    obtain ⟨a, ha⟩ : ∃ a : Int, a = ((k + j : Nat) : Int) := ⟨_, rfl⟩
    rw [← ha] at s1
    have hbad : Hid (∀ W : World, W.heap[rb]? = some (r2O (.slice (some ⟨g, off, none⟩) n c) (k + j) false) → (W.setCell ⟨rb, 2, none⟩ (.bool true)).heap[rb]? = some (r2O (.slice (some ⟨g, off, none⟩) n c) (k + j) true)) := fun W hW => by simp [World.setCell, Array.getElem?_modify, hW]
    by_cases hlt : k + j < n
    · have hce := HC.out wr HGR.out (k + j) hlt
      have hlz : k + j < zs.length := by rw [HL.out]; exact hlt
      have hz := getD_b HB.out (k + j) hlz
      have HNG2 : Hid (nG v j (zs.getD (k + j) 0 :: zs.drop (k + (j + 1))) = Q) := by unfold Hid; rw [show k + (j + 1) = k + j + 1 by omega, ← drop_cons zs (k + j) hlz]; exact HNG.out
      have hat : a.toNat = k + j := by omega
      have hce2 : wr.cell? ⟨g, off + a.toNat, none⟩ = some (.int .u8 (zs.getD (k + j) 0)) := by rw [hat]; exact hce
      have HTL : Hid ((zs.drop (k + (j + 1))).length = n - (k + (j + 1))) := by unfold Hid; rw [List.length_drop, HL.out]
      generalize zs.getD (k + j) 0 = ch at *
      generalize hdz : zs.drop (k + (j + 1)) = tz at *
      have HDZ : Hid (tz = zs.drop (k + (j + 1))) := hdz.symm
      clear hdz
      have HCE : Hid (∀ W : World, w.grownBy W (some rb) → W.heap[g]? = wr.heap[g]? → W.cell? ⟨g, off + a.toNat, none⟩ = some (.int .u8 ch)) := fun W _ hW => by
        have : W.cell? ⟨g, off + a.toNat, none⟩ = wr.cell? ⟨g, off + a.toNat, none⟩ := by simp only [World.cell?]; rw [hW]
        rw [this]; exact hce2
      obtain ⟨hz0, hz1⟩ := hz
      have ha0 : 0 ≤ a := by omega
      have ha1 : a < (n : Int) := by omega
      have ha2 : ¬ (n : Int) ≤ a := by omega
      have HAE : Hid (a = ((k + j : Nat) : Int)) := ha
      have HJ : Hid (k + j ≤ n ∧ k + j < n) := ⟨hkj, hlt⟩
      clear hce HNG HC ha hat hlz hkj hlt
      have HBAD : Hid (∀ nq, Q = none → ∃ e', N2Post Q (.slice (some ⟨g, off, none⟩) n c) n rb w (.returned (.int .i64 0)) ((wr.drewN nq).setCell ⟨rb, 2, none⟩ (.bool true)) ∧ e' = true) := fun nq hQ => by
        refine ⟨true, ?_, rfl⟩
        rw [hQ]
        exact ⟨⟨rfl, k + j, HJ.out.1, hbad.out (wr.drewN nq) HRH.out⟩, grown_trans (grown_trans HGR.out (C.grown_drewN _ _ _)) (grown_set _ _ _ _)⟩
      by_cases hj0 : j = 0
      · subst hj0
        by_cases hc128 : ch = 128
        · subst hc128
          have HQ : Hid (Q = none) := by unfold Hid; rw [← HNG2.out, nG, if_pos ⟨rfl, rfl⟩]
          go_upto_region 5 with fail
          go_quiet (fail)
          go_wp2
          go_ret
          exact (HBAD.out _ HQ.out).choose_spec.1
        · have hc' : (ch == 128) = false := by simpa using hc128
          by_cases hv : 36028797018963967 < v
          · have HQ : Hid (Q = none) := by unfold Hid; rw [← HNG2.out, nG, if_neg (fun h => hc128 h.2), if_pos hv]
            go_upto_region 5 with fail
            go_quiet (fail)
            go_wp2
            go_ret
            exact (HBAD.out _ HQ.out).choose_spec.1
          · go_upto_region 5 with fail
            go_quiet (fail)
            have hw1 : IntKind.i64.wrap (128 * v) = 128 * v := by rw [IntKind.wrap_i64]; omega
            obtain ⟨w2, hw2⟩ : ∃ x, x = wr.drewN nq := ⟨_, rfl⟩
            rw [← hw2]
            have HR2 : Hid (w2.heap[rb]? = some (r2O (.slice (some ⟨g, off, none⟩) n c) (k + 0) false)) := by rw [hw2]; exact HRH.out
            have HG2 : Hid (w.grownBy w2 (some rb)) := by rw [hw2]; exact grown_trans HGR.out (C.grown_drewN _ _ _)
            have hce3 : w2.cell? ⟨g, off + a.toNat, none⟩ = some (.int .u8 ch) := by rw [hw2]; exact hce2
            obtain ⟨t0, t1, t2, tf⟩ := r2_cells HR2.out
            rw [← HAE.out] at t1
            clear s0 s1 s2 f1 f2 hce2 hw2
            go_upto_region 8 with fail
            go_quiet (fail)
            obtain ⟨w3, hw3⟩ : ∃ x, x = w2.drewN nq := ⟨_, rfl⟩
            rw [← hw3]
            have HR3 : Hid (w3.heap[rb]? = some (r2O (.slice (some ⟨g, off, none⟩) n c) (k + 0) false)) := by rw [hw3]; exact HR2.out
            have HG3 : Hid (w.grownBy w3 (some rb)) := by rw [hw3]; exact grown_trans HG2.out (C.grown_drewN _ _ _)
            obtain ⟨y0, y1, y2, yf⟩ := r2_cells HR3.out
            have yf1 := yf 1
            rw [← HAE.out] at y1
            clear t0 t1 t2 tf hw3 hce3 yf
            have hwa : IntKind.i64.wrap (a + 1) = a + 1 := by rw [IntKind.wrap_i64]; omega
            have HR4 : Hid ((w3.setCell ⟨rb, 1, none⟩ (.int .i64 (a + 1))).heap[rb]? = some (r2O (.slice (some ⟨g, off, none⟩) n c) (k + (0 + 1)) false)) := by
              have e : a + 1 = ((k + (0 + 1) : Nat) : Int) := by rw [HAE.out]; omega
              unfold Hid
              rw [e]
              simp [World.setCell, Array.getElem?_modify, HR3.out]
            have HG4 : Hid (w.grownBy (w3.setCell ⟨rb, 1, none⟩ (.int .i64 (a + 1))) (some rb)) := grown_trans HG3.out (grown_set _ _ _ _)
            by_cases h128 : ch < 128
            · have HQ : Hid (Q = some (128 * v + ch, tz)) := by unfold Hid; rw [← HNG2.out, nG, if_neg (fun h => hc128 h.2), if_neg hv, if_pos h128]
              have hcm : ch % 128 = ch := by omega
              have hw4 : IntKind.i64.wrap (128 * v + ch) = 128 * v + ch := by rw [IntKind.wrap_i64]; omega
              go_wp2
              go_ret
              show N2Post Q _ _ _ _ _ _
              rw [HQ.out]
              refine ⟨⟨?_, ?_⟩, HG4.out⟩
              · first | rfl | exact congrArg (fun x => Ending.returned (Value.int IntKind.i64 x)) (by omega)
              · rw [HTL.out, show n - (n - (k + (0 + 1))) = k + (0 + 1) by have := HJ.out.2; omega]
                exact HR4.out
            · have HQ : Hid (nG (128 * v + (ch - 128)) (((0 + 1 : Nat) : Int)) tz = Q) := by unfold Hid; rw [← HNG2.out, nG, if_neg (fun h => hc128 h.2), if_neg hv, if_neg h128]; rfl
              have hcm : ch % 128 = ch - 128 := by omega
              have hw4 : IntKind.i64.wrap (128 * v + (ch - 128)) = 128 * v + (ch - 128) := by rw [IntKind.wrap_i64]; omega
              have hjb : 0 < 140737488355328 := by have := HJ.out.2; omega
              go_wp2
              go_roundw
              case rel => exact ⟨0 + 1, 128 * v + (ch - 128), by have := HJ.out.2; omega, by first | rfl | go_num, by first | rfl | exact congrArg (Value.int IntKind.i64) (by omega), by omega, by omega, HDZ.out ▸ HQ.out, HR4.out, HG4.out⟩
              case measure => simp [intOf]; have := HJ.out.2; omega
      · have hj0' : ((j : Int) == 0) = false := by simp; omega
        by_cases hv : 36028797018963967 < v
        · have HQ : Hid (Q = none) := by unfold Hid; rw [← HNG2.out, nG, if_neg (fun h => hj0 (by omega)), if_pos hv]
          go_upto_region 5 with fail
          go_quiet (fail)
          go_wp2
          go_ret
          exact (HBAD.out _ HQ.out).choose_spec.1
        · go_upto_region 5 with fail
          go_quiet (fail)
          have hw1 : IntKind.i64.wrap (128 * v) = 128 * v := by rw [IntKind.wrap_i64]; omega
          obtain ⟨w2, hw2⟩ : ∃ x, x = wr.drewN nq := ⟨_, rfl⟩
          rw [← hw2]
          have HR2 : Hid (w2.heap[rb]? = some (r2O (.slice (some ⟨g, off, none⟩) n c) (k + j) false)) := by rw [hw2]; exact HRH.out
          have HG2 : Hid (w.grownBy w2 (some rb)) := by rw [hw2]; exact grown_trans HGR.out (C.grown_drewN _ _ _)
          have hce3 : w2.cell? ⟨g, off + a.toNat, none⟩ = some (.int .u8 ch) := by rw [hw2]; exact hce2
          obtain ⟨t0, t1, t2, tf⟩ := r2_cells HR2.out
          rw [← HAE.out] at t1
          clear s0 s1 s2 f1 f2 hce2 hw2
          go_upto_region 8 with fail
          go_quiet (fail)
          obtain ⟨w3, hw3⟩ : ∃ x, x = w2.drewN nq := ⟨_, rfl⟩
          rw [← hw3]
          have HR3 : Hid (w3.heap[rb]? = some (r2O (.slice (some ⟨g, off, none⟩) n c) (k + j) false)) := by rw [hw3]; exact HR2.out
          have HG3 : Hid (w.grownBy w3 (some rb)) := by rw [hw3]; exact grown_trans HG2.out (C.grown_drewN _ _ _)
          obtain ⟨y0, y1, y2, yf⟩ := r2_cells HR3.out
          have yf1 := yf 1
          rw [← HAE.out] at y1
          clear t0 t1 t2 tf hw3 hce3 yf
          have hwa : IntKind.i64.wrap (a + 1) = a + 1 := by rw [IntKind.wrap_i64]; omega
          have HR4 : Hid ((w3.setCell ⟨rb, 1, none⟩ (.int .i64 (a + 1))).heap[rb]? = some (r2O (.slice (some ⟨g, off, none⟩) n c) (k + (j + 1)) false)) := by
            have e : a + 1 = ((k + (j + 1) : Nat) : Int) := by rw [HAE.out]; omega
            unfold Hid
            rw [e]
            simp [World.setCell, Array.getElem?_modify, HR3.out]
          have HG4 : Hid (w.grownBy (w3.setCell ⟨rb, 1, none⟩ (.int .i64 (a + 1))) (some rb)) := grown_trans HG3.out (grown_set _ _ _ _)
          by_cases h128 : ch < 128
          · have HQ : Hid (Q = some (128 * v + ch, tz)) := by unfold Hid; rw [← HNG2.out, nG, if_neg (fun h => hj0 (by omega)), if_neg hv, if_pos h128]
            have hcm : ch % 128 = ch := by omega
            have hw4 : IntKind.i64.wrap (128 * v + ch) = 128 * v + ch := by rw [IntKind.wrap_i64]; omega
            go_wp2
            go_ret
            show N2Post Q _ _ _ _ _ _
            rw [HQ.out]
            refine ⟨⟨?_, ?_⟩, HG4.out⟩
            · first | rfl | exact congrArg (fun x => Ending.returned (Value.int IntKind.i64 x)) (by omega)
            · rw [HTL.out, show n - (n - (k + (j + 1))) = k + (j + 1) by have := HJ.out.2; omega]
              exact HR4.out
          · have HQ : Hid (nG (128 * v + (ch - 128)) (((j + 1 : Nat) : Int)) tz = Q) := by unfold Hid; rw [← HNG2.out, nG, if_neg (fun h => hj0 (by omega)), if_neg hv, if_neg h128]; rfl
            have hcm : ch % 128 = ch - 128 := by omega
            have hw4 : IntKind.i64.wrap (128 * v + (ch - 128)) = 128 * v + (ch - 128) := by rw [IntKind.wrap_i64]; omega
            have hjb : j < 140737488355328 := by have := HJ.out.2; omega
            go_wp2
            go_roundw
            case rel => exact ⟨j + 1, 128 * v + (ch - 128), by have := HJ.out.2; omega, by first | rfl | go_num, by first | rfl | exact congrArg (Value.int IntKind.i64) (by omega), by omega, by omega, HDZ.out ▸ HQ.out, HR4.out, HG4.out⟩
            case measure => simp [intOf]; have := HJ.out.2; omega
    · have HQ : Hid (Q = none) := by unfold Hid; rw [← HNG.out, List.drop_eq_nil_of_le (by rw [HL.out]; omega)]; rfl
      have hge : (n : Int) ≤ a := by omega
      clear ha
      go_upto_region 5 with fail
      go_quiet (fail)
      go_wp2
      go_ret
      show N2Post Q _ _ _ _ _ _
      rw [HQ.out]
      exact ⟨⟨rfl, k + j, hkj, hbad.out (wr.drewN _) HRH.out⟩, grown_trans (grown_trans HGR.out (C.grown_drewN _ _ _)) (grown_set _ _ _ _)⟩
end Go.Proofs.YtllhbhogfffedaaGreatDoor

namespace Go.Proofs.YtllhbhogfffedaaGreatDoor

/-- An append of what lies at an address, as one step of a region that draws. -/
theorem step_append_at {P : Program} {ops : Array Oper} {o : Oper} {a : Act} {w : World} {K : Act → World → Prop} {Q : Exit → Act → World → Prop} {E : Prop}
    (hg : o.guard = none) (s x : Operand) (t : TypeId) (hop : o.op = Op.call { callee := Callee.builtin Builtin.append, args := #[s, x], argTypes := #[t, t] })
    (base : Nat) (e : TypeId) (i : TypeInfo) (z : Value) (size bytes : Nat) (ht : P.underlying t = some (.slice e)) (hi : P.info? e = some i) (hz : i.zero = some z)
    (hsize : i.size = size) (hby : i.bytes = bytes) (hzs : z.cells.size = size) (hsz : 0 < size)
    (v : Value) (n : Nat) (xs : List Value) (hs : a.eval s = v) (hown : w.ownsRow base e size v n xs)
    (ad : Addr) (m c : Nat) (news : List Value) (hx : a.eval x = .slice (some ad) m c) (hl : news.length = m * size) (hnews : ∀ j u, news[j]? = some u → w.cell? (ad.add j) = some u) (h1 : ∀ u ∈ news, u.oneCell' = true)
    (h63 : n + m ≤ maxLen) (hbytes : (n + m) * bytes ≤ 140737488355328) (hbase : base ≤ w.heap.size)
    (hK : ∀ v' w', w'.ownsRow base e size v' (n + m) (xs ++ news) → w.grownBy w' v.ownBlock → (v'.ownBlock = v.ownBlock ∨ v'.ownBlock = some w.heap.size) → K (a.put o.dst v') w') :
    if Region.wanted o (yielded ops a.tmps) = true then Oper.wp P o a w K Q else E := by
  have hw : Region.wanted o (yielded ops a.tmps) = true := by simp [Region.wanted, hg]
  rw [if_pos hw]
  obtain ⟨v', w', hrun, r2, r3, _, r5⟩ := run_append_own_at (P := P) w base t o.type e i z size bytes ht hi hz hsize hby hzs hsz v n xs hown ad m c news hl hnews h1 h63 hbytes hbase
  unfold Oper.wp
  simp [execOp, hop, resolve, invoke, builtin, hs, hx, hrun, Result.andThen]
  exact hK v' w' r2 r3 r5

end Go.Proofs.YtllhbhogfffedaaGreatDoor

namespace Go.Proofs.YtllhbhogfffedaaGreatDoor

/-- No operation defers. -/
def noDefer (ops : Array Oper) : Bool := ops.all fun o => match o.op with | .defer _ => false | _ => true
end Go.Proofs.YtllhbhogfffedaaGreatDoor
