import Derived.Test.YtlagadpfnkidjadDoorBkRf1
import Derived.Test.YtlagadpfnkidjadDoorBkCu2
namespace Go.Proofs.YtlagadpfnkidjadDoor
open Go.RowKit

theorem setAll {w : World} {b : Nat} {a0 a1 a2 a3 a4 u0 u1 u2 u3 u4 : Value} {t : TypeId} (h : w.heap[b]? = some (.cells #[a0, a1, a2, a3, a4] t (0, 0))) : (((((w.setCell ⟨b, 0, none⟩ u0).setCell ⟨b, 1, none⟩ u1).setCell ⟨b, 2, none⟩ u2).setCell ⟨b, 3, none⟩ u3).setCell ⟨b, 4, none⟩ u4).heap[b]? = some (.cells #[u0, u1, u2, u3, u4] t (0, 0)) := by
  have hb := (Array.getElem?_eq_some_iff.1 h).1
  simp [World.setCell, Array.getElem?_modify, h]
theorem set50 {w : World} {b : Nat} {a0 a1 a2 a3 a4 u : Value} {t : TypeId} (h : w.heap[b]? = some (.cells #[a0, a1, a2, a3, a4] t (0, 0))) : (w.setCell ⟨b, 0, none⟩ u).heap[b]? = some (.cells #[u, a1, a2, a3, a4] t (0, 0)) := by
  have hb := (Array.getElem?_eq_some_iff.1 h).1
  simp [World.setCell, Array.getElem?_modify, h]

set_option maxRecDepth 100000 in
set_option maxHeartbeats 4000000 in
theorem cut2_any (k : Pk) (base : Int) (w : World) :
    Calls Tryd.prog 12 #[.agg #[.int .i64 k.org, .int .i64 k.num], .agg #[.int .i64 k.srv, .int .i64 k.size, .int .i64 k.red, .int .i64 k.mtu, .int .i64 k.every], .int .i64 base] w (CutPost (cut k base) w) := by
  obtain ⟨i0, hi, hz0, hz1, hz2⟩ := info_parts Tryd.info_piece
  have HCU : Hid (cut k base = if sesB k = false then ([], 1) else if pclB k = false then ([], 40) else if base < 0 ∨ 4611686018427387903 - 65536 < base then ([], 1) else (cutL k base, 0)) := rfl
  have HST : Hid (((w.alloc (.cells #[.int .i64 k.org, .int .i64 k.num] 26)).alloc (.cells #[.int .i64 k.srv, .int .i64 k.size, .int .i64 k.red, .int .i64 k.mtu, .int .i64 k.every] 28)).heap[w.heap.size]? = some (.cells #[.int .i64 k.org, .int .i64 k.num] 26) ∧
      ((w.alloc (.cells #[.int .i64 k.org, .int .i64 k.num] 26)).alloc (.cells #[.int .i64 k.srv, .int .i64 k.size, .int .i64 k.red, .int .i64 k.mtu, .int .i64 k.every] 28)).heap[w.heap.size + 1]? = some (.cells #[.int .i64 k.srv, .int .i64 k.size, .int .i64 k.red, .int .i64 k.mtu, .int .i64 k.every] 28) ∧
      Below w.heap.size w ((w.alloc (.cells #[.int .i64 k.org, .int .i64 k.num] 26)).alloc (.cells #[.int .i64 k.srv, .int .i64 k.size, .int .i64 k.red, .int .i64 k.mtu, .int .i64 k.every] 28)) ∧ w.heap.size + 2 ≤ ((w.alloc (.cells #[.int .i64 k.org, .int .i64 k.num] 26)).alloc (.cells #[.int .i64 k.srv, .int .i64 k.size, .int .i64 k.red, .int .i64 k.mtu, .int .i64 k.every] 28)).heap.size) := by
    refine ⟨heapA (heap_alloc_new' _ _) _, ?_, ((Below.refl _ _).alloc (Nat.le_refl _) _).alloc (by simp) _, by simp⟩
    have := heap_alloc_new' (w.alloc (.cells #[.int .i64 k.org, .int .i64 k.num] 26)) (.cells #[.int .i64 k.srv, .int .i64 k.size, .int .i64 k.red, .int .i64 k.mtu, .int .i64 k.every] 28)
    rw [World.size_alloc] at this; exact this
  have hse := session2_any k ((w.alloc (.cells #[.int .i64 k.org, .int .i64 k.num] 26)).alloc (.cells #[.int .i64 k.srv, .int .i64 k.size, .int .i64 k.red, .int .i64 k.mtu, .int .i64 k.every] 28))
  go_enter Tryd.func12, Tryd.ntmps12
  go_wp2_with fail
  refine hse.mono ?_
  rintro e w1 ⟨rfl, hb⟩
  have HB1 : Hid (w1.heap[w.heap.size]? = some (.cells #[.int .i64 k.org, .int .i64 k.num] 26) ∧ w1.heap[w.heap.size + 1]? = some (.cells #[.int .i64 k.srv, .int .i64 k.size, .int .i64 k.red, .int .i64 k.mtu, .int .i64 k.every] 28) ∧ Below w.heap.size w w1) :=
    ⟨(hb.block _ (by have := HST.out.2.2.2; omega)).trans HST.out.1, (hb.block _ (by have := HST.out.2.2.2; omega)).trans HST.out.2.1, HST.out.2.2.1.trans (hb.mono HST.out.2.2.1.size)⟩
  clear HST hse hb
  cases hs : sesB k with
  | false =>
    have HQ : Hid (cut k base = ([], 1)) := by unfold Hid; rw [HCU.out, if_pos hs]
    clear HCU
    go_wp2
    go_ret2
    exact ⟨_, by rw [HQ.out]; rfl, by rw [HQ.out]; exact ⟨rfl, .inl ⟨rfl, rfl⟩⟩, HB1.out.2.2⟩
  | true =>
    obtain ⟨y0, y1, y2, y3, y4, _, _, _, _, _⟩ := box5 HB1.out.2.1
    have hpc := parcel2_any k w1
    go_wp2_with fail
    refine hpc.mono ?_
    rintro e w2 ⟨rfl, hb⟩
    have HB2 : Hid (w2.heap[w.heap.size]? = some (.cells #[.int .i64 k.org, .int .i64 k.num] 26) ∧ w2.heap[w.heap.size + 1]? = some (.cells #[.int .i64 k.srv, .int .i64 k.size, .int .i64 k.red, .int .i64 k.mtu, .int .i64 k.every] 28) ∧ Below w.heap.size w w2) :=
      ⟨(hb.block _ (Array.getElem?_eq_some_iff.1 HB1.out.1).1).trans HB1.out.1, (hb.block _ (Array.getElem?_eq_some_iff.1 HB1.out.2.1).1).trans HB1.out.2.1, HB1.out.2.2.trans (hb.mono HB1.out.2.2.size)⟩
    clear HB1 hpc hb y0 y1 y2 y3 y4
    cases hp : pclB k with
    | false =>
      have HQ : Hid (cut k base = ([], 40)) := by unfold Hid; rw [HCU.out, hs, if_neg (by simp), if_pos hp]
      clear HCU
      go_wp2
      go_ret2
      exact ⟨_, by rw [HQ.out]; rfl, by rw [HQ.out]; exact ⟨rfl, .inl ⟨rfl, rfl⟩⟩, HB2.out.2.2⟩
    | true =>
      by_cases hb : base < 0 ∨ 4611686018427387903 - 65536 < base
      · have HQ : Hid (cut k base = ([], 1)) := by unfold Hid; rw [HCU.out, hs, hp, if_neg (by simp), if_neg (by simp), if_pos hb]
        clear HCU
        by_cases hb' : base < 0
        · go_wp2
          go_ret2
          exact ⟨_, by rw [HQ.out]; rfl, by rw [HQ.out]; exact ⟨rfl, .inl ⟨rfl, rfl⟩⟩, HB2.out.2.2⟩
        · have hb2 : 4611686018427322367 < base := by omega
          clear hb
          go_wp2
          go_ret2
          exact ⟨_, by rw [HQ.out]; rfl, by rw [HQ.out]; exact ⟨rfl, .inl ⟨rfl, rfl⟩⟩, HB2.out.2.2⟩
      have HQ : Hid (cut k base = (cutL k base, 0)) := by unfold Hid; rw [HCU.out, hs, hp, if_neg (by simp), if_neg (by simp), if_neg hb]
      have hb0 : 0 ≤ base := by omega
      have hb1 : base ≤ 4611686018427322367 := by omega
      clear HCU hb
      have OK : Hid k.Ok := Pk.ok_of hs hp
      have HS0 : Hid (CR k w base (.slice none 0 0) 0 base 0 [] k.red.toNat w2) :=
        ⟨by omega, OK.out.red.1, ⟨rfl, .inl ⟨rfl, rfl⟩⟩, HB2.out.2.2, HB2.out.1, HB2.out.2.1, rfl, by have := OK.out.red; omega, by simp, by simp, by simp⟩
      clear HB2
      go_wp2_with fail
      go_loopw [2, 10, 11, 12] (fun b p r q wr => ∃ (v : Value) (at' bs pl : Int) (l : List Pc) (f : Nat), v = p ∧ b = .int .i64 bs ∧ q = .int .i64 pl ∧ r = .int .i64 at' ∧ CR k w base v at' bs pl l f wr) (fun _ _ r _ _ => (k.red - intOf r).toNat)
      case atStart => exact ⟨_, 0, base, 0, [], _, rfl, rfl, rfl, rfl, HS0.out⟩
      case round =>
        obtain ⟨v, at', bs, pl, l, f, rfl, rfl, rfl, rfl, hg⟩ := hrel
        clear HS0
        by_cases hlt : at' < k.red
        · have HG : Hid (CR k w base v at' bs pl l f wr) := hg
          clear hg
          have hb2 : k.red ≤ 65536 := by have := OK.out.size; have := OK.out.red; omega
          have hb1' : 0 ≤ at' ∧ at' ≤ 65535 := by have := HG.out.lo; omega
          have hbs : 0 ≤ bs ∧ bs ≤ 4611686018427387902 := by have := HG.out.bas; have := HG.out.len; omega
          have hpl : 0 ≤ pl ∧ pl ≤ 65536 := by have := HG.out.pla; have := HG.out.len; omega
          have hev := OK.out.every
          have hto : at' < (cPc k at' k.red (bs + 1) 0).to ∧ (cPc k at' k.red (bs + 1) 0).to ≤ k.red := cPc_to OK.out hb1'.1 hlt hb2 ⟨by omega, by omega⟩ ⟨by omega, by omega⟩
          have hro := ro1_low OK.out (at' := at') (c := bs + 1) (r := 0) hb1'.1 (by omega) ⟨by omega, by omega⟩ ⟨by omega, by omega⟩
          have HL : Hid (l.length ≤ 65536) := by have := HG.out.len; unfold Hid; omega
          have hrm := room_c OK.out at' (bs + 1) (wr.alloc (.cells #[.int .i64 1, .int .i64 at', .int .i64 0, .int .i64 (bs + 1), .int .i64 0] 46)) hb1'.1 hb1'.2 ⟨by omega, by omega⟩
          obtain ⟨y0, y1, y2, y3, y4, _, _, _, _, _⟩ := box5 HG.out.pcl
          have s0 : (wr.alloc (.cells #[.int .i64 1, .int .i64 at', .int .i64 0, .int .i64 (bs + 1), .int .i64 0] 46)).cell? ⟨w.heap.size, 0, none⟩ = some (.int .i64 k.org) := cell_of_row _ _ 0 _ _ _ (heapA HG.out.ses _)
          have s1 : (wr.alloc (.cells #[.int .i64 1, .int .i64 at', .int .i64 0, .int .i64 (bs + 1), .int .i64 0] 46)).cell? ⟨w.heap.size, 1, none⟩ = some (.int .i64 k.num) := cell_of_row _ _ 1 _ _ _ (heapA HG.out.ses _)
          obtain ⟨t0, t1, t2, t3, t4, _, _, _, _, _⟩ := box5 (heapA HG.out.pcl (.cells #[.int .i64 1, .int .i64 at', .int .i64 0, .int .i64 (bs + 1), .int .i64 0] 46))
          have HRC : Hid (redC k at' bs pl = _) := redC_iff hpl.1
          obtain ⟨T, hT⟩ : ∃ T, min (at' + ro1 k at' (bs + 1) 0) k.red = T := ⟨_, rfl⟩
          obtain ⟨Y, hY⟩ : ∃ Y, ckT k T = Y := ⟨_, rfl⟩
          have HTD : Hid (min (at' + ro1 k at' (bs + 1) 0) k.red = T) := hT
          have HPC : Hid (cPc k at' k.red (bs + 1) 0 = ⟨Y, at', T, bs + 1, 0⟩) := by unfold Hid cPc; rw [hT, hY]
          rw [HPC.out] at hto
          simp only at hto
          generalize ro1 k at' (bs + 1) 0 = ro at *
          have u1 : IntKind.i64.wrap (k.red - at') = k.red - at' := by rw [IntKind.wrap_i64]; omega
          have u2 : IntKind.i64.wrap (at' + min ro (k.red - at')) = T := by rw [IntKind.wrap_i64]; omega
          have u3 : IntKind.i64.wrap (bs + 1) = bs + 1 := by rw [IntKind.wrap_i64]; omega
          have u4 : IntKind.i64.wrap (k.every - 1) = k.every - 1 := by rw [IntKind.wrap_i64]; omega
          have HSZ : Hid (w.heap.size + 2 ≤ wr.heap.size) := HG.out.size
          have HEN : Hid (∀ V, Calls Tryd.prog 40 #[.agg #[.int .i64 k.srv, .int .i64 k.size, .int .i64 k.red, .int .i64 k.mtu, .int .i64 k.every], .int .i64 T] V fun e w' => e = .returned (.int .i64 Y) ∧ Below V.heap.size V w') := fun V => hY ▸ ended_any k T V hto.2
          clear hT hY
          go_wp2_with fail
          refine hrm.mono ?_
          rintro e w3 ⟨rfl, hb3⟩
          obtain ⟨z0, z1, z2, z3, z4, f0, f1, f2, f3, f4⟩ := box5 ((hb3.block wr.heap.size (by simp)).trans (heap_alloc_new' _ _))
          have hpc3 := (hb3.block (w.heap.size + 1) (by have := HSZ.out; simp; omega)).trans (heapA HG.out.pcl _)
          obtain ⟨q0, q1, q2, q3, q4, _, _, _, _, _⟩ := box5 hpc3
          clear hrm s0 s1 y0 y1 y2 y3 y4 t0 t1 t2 t3 t4
          have hne : w.heap.size + 1 ≠ wr.heap.size := by have := HSZ.out; omega
          have hne' : wr.heap.size ≠ w.heap.size + 1 := by have := HSZ.out; omega
          obtain ⟨a, cap, hv⟩ := own_shp HG.out.own
          have HO : Hid (wr.ownsRow (w.heap.size + 2) 46 5 v l.length (l.flatMap pcL)) := HG.out.own
          subst hv
          obtain ⟨X, hX⟩ : ∃ X, l.flatMap pcL = X := ⟨_, rfl⟩
          obtain ⟨m, hm⟩ : ∃ m, l.length = m := ⟨_, rfl⟩
          rw [hX, hm] at HO
          rw [hm] at HG HL
          have HX : Hid (l.flatMap pcL = X ∧ l.length = m) := ⟨hX, hm⟩
          rw [hm]
          clear hX hm hpc3
          have HZ3 : Hid (w3.heap[wr.heap.size]? = some (.cells #[.int .i64 1, .int .i64 at', .int .i64 0, .int .i64 (bs + 1), .int .i64 0] 46)) := (hb3.block wr.heap.size (by simp)).trans (heap_alloc_new' _ _)
          have HB3 : Hid (Below wr.heap.size wr w3) := ((Below.refl _ _).alloc (Nat.le_refl _) _).trans (hb3.mono (by simp))
          have HLT : Hid (wr.heap.size < w3.heap.size) := by have := hb3.size; simp at this; exact this
          clear hb3
          by_cases hC : k.red - at' ≤ ro
          · have HC : Hid (redC k at' bs pl = true) := by unfold Hid; rw [HRC.out]; simp [hC]
            have HNP : Hid (nxP k at' bs pl = ⟨Y, at', T, bs + 1, 0⟩) := by unfold Hid nxP; rw [HC.out, if_pos rfl, HPC.out]
            have HNB : Hid (nxB k at' bs pl = bs + 1) := by unfold Hid nxB; rw [HC.out, if_pos rfl]
            have HNN : Hid (nxN k at' bs pl = 0) := by unfold Hid nxN; rw [HC.out, if_pos rfl]
            clear HC HRC HPC HTD
            go_wp2_with fail
            refine (HEN.out _).mono ?_
            rintro e w4 ⟨rfl, hb4⟩
            have hb4' := hb4.size
            simp only [World.setCell, Array.size_modify] at hb4'
            have HSW : Hid ((w4.setCell ⟨wr.heap.size, 0, none⟩ (.int .i64 Y)).heap.size = w4.heap.size ∧ wr.heap.size < w4.heap.size) := ⟨by simp [World.setCell], by have := HLT.out; omega⟩
            have HZ : Hid (w4.heap[wr.heap.size]? = some (.cells #[.int .i64 1, .int .i64 at', .int .i64 T, .int .i64 (bs + 1), .int .i64 0] 46)) := (hb4.block wr.heap.size (by have := HLT.out; simp [World.setCell]; omega)).trans (set5 HZ3.out)
            have HBF : Hid (Below wr.heap.size wr (w4.setCell ⟨wr.heap.size, 0, none⟩ (.int .i64 Y))) := ((HB3.out.setCell (Nat.le_refl _) _).trans (hb4.mono (by have := HLT.out; simp [World.setCell]; omega))).setCell (Nat.le_refl _) _
            have HBK : Hid ((w4.setCell ⟨wr.heap.size, 0, none⟩ (.int .i64 Y)).heap[wr.heap.size]? = some (.cells #[.int .i64 Y, .int .i64 at', .int .i64 T, .int .i64 (bs + 1), .int .i64 0] 46)) := set50 HZ.out
            clear hb4 hb4' z0 z1 z2 z3 z4 f0 f1 f2 f3 f4 q0 q1 q2 q3 q4
            obtain ⟨z0, z1, z2, z3, z4, f0, f1, f2, f3, f4⟩ := box5 HZ.out
            go_wp2_with (at_builtin; refine wpList_append_own_at _ rfl _ _ 31 rfl (w.heap.size + 2) 46 i0 (.agg #[.int .i64 0, .int .i64 0, .int .i64 0, .int .i64 0, .int .i64 0]) 5 40 Tryd.underlying31 hi hz0 hz1 hz2 rfl (by decide) _ _ _ rfl (World.ownsRow.alloc (own_below HO.out HBF.out) _) ⟨w4.heap.size, 0, none⟩ 1 1 [.int .i64 Y, .int .i64 at', .int .i64 T, .int .i64 (bs + 1), .int .i64 0] rfl rfl ?c1 ?c2 ?c3 ?c4 ?c5 ?_)
            case c1 => exact cell_five _ _ _ _ _ _ _ _ (by simp)
            case c2 => intro x hx; simp only [List.mem_cons, List.not_mem_nil, or_false] at hx; rcases hx with rfl | rfl | rfl | rfl | rfl <;> rfl
            case c3 => have := HL.out; unfold maxLen; omega
            case c4 => have := HL.out; omega
            case c5 => have h1 := HSZ.out; have h2 := HSW.out; simp; omega
            intro v' w5 hown5 hgrow5 _ _
            have hst := HG.out.step OK.out hlt ⟨hb0, hb1⟩ (HBF.out.alloc HBF.out.size _) (by rw [HX.out.1, HX.out.2, HNP.out]; exact hown5) hgrow5
            rw [HNP.out, HNB.out, HNN.out] at hst
            have hcl : w5.cell? ⟨wr.heap.size, 2, none⟩ = some (.int .i64 T) := cell_of_row _ _ 2 _ _ _ ((hgrow5.block wr.heap.size (by have := HSW.out; simp only [World.size_alloc]; omega) (fun e => by have := row_ge HO.out _ e.symm; omega)).trans (heapA HBK.out _))
            have HN : Hid (∃ x f', CR k w base v' T (bs + 1) (0) (l ++ [x]) f' w5) := by obtain ⟨f', h⟩ := hst; exact ⟨_, f', h⟩
            clear hst hown5 hgrow5 HG HO HBF HX HL HBK HSW HNP HNB HNN HZ
            go_wp2
            go_roundw
            case rel => obtain ⟨x, f', h⟩ := HN.out; exact ⟨_, _, _, _, _, f', rfl, by go_num, by go_num, by go_num, h⟩
            case measure => simp [intOf]; omega
          by_cases hE : 0 < k.every ∧ pl = k.every - 1
          · have HC : Hid (redC k at' bs pl = true) := by unfold Hid; rw [HRC.out]; simp [hE.1, hE.2]
            obtain ⟨hE1, hE2⟩ := hE
            have e2 : (pl == k.every - 1) = true := by simp [hE2]
            have HNP : Hid (nxP k at' bs pl = ⟨Y, at', T, bs + 1, 0⟩) := by unfold Hid nxP; rw [HC.out, if_pos rfl, HPC.out]
            have HNB : Hid (nxB k at' bs pl = bs + 1) := by unfold Hid nxB; rw [HC.out, if_pos rfl]
            have HNN : Hid (nxN k at' bs pl = 0) := by unfold Hid nxN; rw [HC.out, if_pos rfl]
            clear HC HRC HPC HTD
            go_wp2_with fail
            refine (HEN.out _).mono ?_
            rintro e w4 ⟨rfl, hb4⟩
            have hb4' := hb4.size
            simp only [World.setCell, Array.size_modify] at hb4'
            have HSW : Hid ((w4.setCell ⟨wr.heap.size, 0, none⟩ (.int .i64 Y)).heap.size = w4.heap.size ∧ wr.heap.size < w4.heap.size) := ⟨by simp [World.setCell], by have := HLT.out; omega⟩
            have HZ : Hid (w4.heap[wr.heap.size]? = some (.cells #[.int .i64 1, .int .i64 at', .int .i64 T, .int .i64 (bs + 1), .int .i64 0] 46)) := (hb4.block wr.heap.size (by have := HLT.out; simp [World.setCell]; omega)).trans (set5 HZ3.out)
            have HBF : Hid (Below wr.heap.size wr (w4.setCell ⟨wr.heap.size, 0, none⟩ (.int .i64 Y))) := ((HB3.out.setCell (Nat.le_refl _) _).trans (hb4.mono (by have := HLT.out; simp [World.setCell]; omega))).setCell (Nat.le_refl _) _
            have HBK : Hid ((w4.setCell ⟨wr.heap.size, 0, none⟩ (.int .i64 Y)).heap[wr.heap.size]? = some (.cells #[.int .i64 Y, .int .i64 at', .int .i64 T, .int .i64 (bs + 1), .int .i64 0] 46)) := set50 HZ.out
            clear hb4 hb4' z0 z1 z2 z3 z4 f0 f1 f2 f3 f4 q0 q1 q2 q3 q4
            obtain ⟨z0, z1, z2, z3, z4, f0, f1, f2, f3, f4⟩ := box5 HZ.out
            go_wp2_with (at_builtin; refine wpList_append_own_at _ rfl _ _ 31 rfl (w.heap.size + 2) 46 i0 (.agg #[.int .i64 0, .int .i64 0, .int .i64 0, .int .i64 0, .int .i64 0]) 5 40 Tryd.underlying31 hi hz0 hz1 hz2 rfl (by decide) _ _ _ rfl (World.ownsRow.alloc (own_below HO.out HBF.out) _) ⟨w4.heap.size, 0, none⟩ 1 1 [.int .i64 Y, .int .i64 at', .int .i64 T, .int .i64 (bs + 1), .int .i64 0] rfl rfl ?c1 ?c2 ?c3 ?c4 ?c5 ?_)
            case c1 => exact cell_five _ _ _ _ _ _ _ _ (by simp)
            case c2 => intro x hx; simp only [List.mem_cons, List.not_mem_nil, or_false] at hx; rcases hx with rfl | rfl | rfl | rfl | rfl <;> rfl
            case c3 => have := HL.out; unfold maxLen; omega
            case c4 => have := HL.out; omega
            case c5 => have h1 := HSZ.out; have h2 := HSW.out; simp; omega
            intro v' w5 hown5 hgrow5 _ _
            have hst := HG.out.step OK.out hlt ⟨hb0, hb1⟩ (HBF.out.alloc HBF.out.size _) (by rw [HX.out.1, HX.out.2, HNP.out]; exact hown5) hgrow5
            rw [HNP.out, HNB.out, HNN.out] at hst
            have hcl : w5.cell? ⟨wr.heap.size, 2, none⟩ = some (.int .i64 T) := cell_of_row _ _ 2 _ _ _ ((hgrow5.block wr.heap.size (by have := HSW.out; simp only [World.size_alloc]; omega) (fun e => by have := row_ge HO.out _ e.symm; omega)).trans (heapA HBK.out _))
            have HN : Hid (∃ x f', CR k w base v' T (bs + 1) (0) (l ++ [x]) f' w5) := by obtain ⟨f', h⟩ := hst; exact ⟨_, f', h⟩
            clear hst hown5 hgrow5 HG HO HBF HX HL HBK HSW HNP HNB HNN HZ
            go_wp2
            go_roundw
            case rel => obtain ⟨x, f', h⟩ := HN.out; exact ⟨_, _, _, _, _, f', rfl, by go_num, by go_num, by go_num, h⟩
            case measure => simp [intOf]; omega
          by_cases hv0 : 0 < k.every
          · have hpe : ¬ pl = k.every - 1 := fun h => hE ⟨hv0, h⟩
            have e2 : (pl == k.every - 1) = false := beq_false_of_ne hpe
            have HC : Hid (redC k at' bs pl = false) := by unfold Hid; rw [HRC.out, decide_eq_false hC, Bool.false_or, ← Bool.decide_and, decide_eq_false hE]
            have hat : at' < k.red - 1 := by omega
            have hto2 := pPc_to OK.out (at' := at') (e := k.red - 1) hb1'.1 hat (by omega)
            have hr0 := ro0_low OK.out (at' := at') hb1'.1 (by omega)
            have hpn := room_p OK.out 0 at' (.inl rfl) (((((w3.setCell ⟨wr.heap.size, 0, none⟩ (.int .i64 0)).setCell ⟨wr.heap.size, 1, none⟩ (.int .i64 at')).setCell ⟨wr.heap.size, 2, none⟩ (.int .i64 0)).setCell ⟨wr.heap.size, 3, none⟩ (.int .i64 0)).setCell ⟨wr.heap.size, 4, none⟩ (.int .i64 0)) hb1'.1 hb1'.2
            obtain ⟨T2, hT2⟩ : ∃ T2, min (at' + ro0 k at') (k.red - 1) = T2 := ⟨_, rfl⟩
            have HPP : Hid (pPc k at' (k.red - 1) = ⟨0, at', T2, 0, 0⟩) := by unfold Hid pPc; rw [hT2]
            have HNP : Hid (nxP k at' bs pl = ⟨0, at', T2, 0, 0⟩) := by unfold Hid nxP; rw [HC.out, if_neg (by simp), HPP.out]
            have HNB : Hid (nxB k at' bs pl = bs) := by unfold Hid nxB; rw [HC.out, if_neg (by simp)]
            have HNN : Hid (nxN k at' bs pl = pl + 1) := by unfold Hid nxN; rw [HC.out, if_neg (by simp)]
            rw [HPP.out] at hto2
            simp only at hto2
            generalize ro0 k at' = r0 at *
            have u5 : IntKind.i64.wrap (k.red - at' - 1) = k.red - at' - 1 := by rw [IntKind.wrap_i64]; omega
            have u6 : IntKind.i64.wrap (at' + min r0 (k.red - at' - 1)) = T2 := by rw [IntKind.wrap_i64]; omega
            have u7 : IntKind.i64.wrap (pl + 1) = pl + 1 := by rw [IntKind.wrap_i64]; omega
            clear HC HRC HPC HTD HPP hT2 u2 HEN
            have p0 : w3.cell? ⟨w.heap.size, 0, none⟩ = some (.int .i64 k.org) := cell_of_row _ _ 0 _ _ _ ((HB3.out.block w.heap.size (by have := HSZ.out; omega)).trans HG.out.ses)
            have p1 : w3.cell? ⟨w.heap.size, 1, none⟩ = some (.int .i64 k.num) := cell_of_row _ _ 1 _ _ _ ((HB3.out.block w.heap.size (by have := HSZ.out; omega)).trans HG.out.ses)
            have hn0 : w.heap.size ≠ wr.heap.size := by have := HSZ.out; omega
            have hn0' : wr.heap.size ≠ w.heap.size := by have := HSZ.out; omega
            go_wp2_with fail
            refine hpn.mono ?_
            rintro e w4 ⟨rfl, hb4⟩
            have hb4' := hb4.size
            simp only [World.setCell, Array.size_modify] at hb4'
            have HSW : Hid ((w4.setCell ⟨wr.heap.size, 2, none⟩ (.int .i64 T2)).heap.size = w4.heap.size ∧ wr.heap.size < w4.heap.size) := ⟨by simp [World.setCell], by have := HLT.out; omega⟩
            have HZ : Hid (w4.heap[wr.heap.size]? = some (.cells #[.int .i64 0, .int .i64 at', .int .i64 0, .int .i64 0, .int .i64 0] 46)) := (hb4.block wr.heap.size (by have := HLT.out; simp [World.setCell]; omega)).trans (setAll HZ3.out)
            have HB4 : Hid (Below wr.heap.size wr w4) := (five_below HB3.out (Nat.le_refl _) _ _ _ _ _).trans (hb4.mono (by have := HLT.out; simp [World.setCell]; omega))
            have HBF : Hid (Below wr.heap.size wr (w4.setCell ⟨wr.heap.size, 2, none⟩ (.int .i64 T2))) := HB4.out.setCell (Nat.le_refl _) _
            have HBK : Hid ((w4.setCell ⟨wr.heap.size, 2, none⟩ (.int .i64 T2)).heap[wr.heap.size]? = some (.cells #[.int .i64 0, .int .i64 at', .int .i64 T2, .int .i64 0, .int .i64 0] 46)) := set5 HZ.out
            clear hb4 hb4' hpn z0 z1 z2 z3 z4 f0 f1 f2 f3 f4 q0 q1 q2 q3 q4 p0 p1
            obtain ⟨z0, z1, z2, z3, z4, f0, f1, f2, f3, f4⟩ := box5 HZ.out
            have q2 : w4.cell? ⟨w.heap.size + 1, 2, none⟩ = some (.int .i64 k.red) := cell_of_row _ _ 2 _ _ _ ((HB4.out.block (w.heap.size + 1) (by have := HSZ.out; omega)).trans HG.out.pcl)
            clear HB4
            go_wp2_with (at_builtin; refine wpList_append_own_at _ rfl _ _ 31 rfl (w.heap.size + 2) 46 i0 (.agg #[.int .i64 0, .int .i64 0, .int .i64 0, .int .i64 0, .int .i64 0]) 5 40 Tryd.underlying31 hi hz0 hz1 hz2 rfl (by decide) _ _ _ rfl (World.ownsRow.alloc (own_below HO.out HBF.out) _) ⟨w4.heap.size, 0, none⟩ 1 1 [.int .i64 0, .int .i64 at', .int .i64 T2, .int .i64 0, .int .i64 0] rfl rfl ?c1 ?c2 ?c3 ?c4 ?c5 ?_)
            case c1 => exact cell_five _ _ _ _ _ _ _ _ (by simp)
            case c2 => intro x hx; simp only [List.mem_cons, List.not_mem_nil, or_false] at hx; rcases hx with rfl | rfl | rfl | rfl | rfl <;> rfl
            case c3 => have := HL.out; unfold maxLen; omega
            case c4 => have := HL.out; omega
            case c5 => have h1 := HSZ.out; have h2 := HSW.out; simp; omega
            intro v' w5 hown5 hgrow5 _ _
            have hst := HG.out.step OK.out hlt ⟨hb0, hb1⟩ (HBF.out.alloc HBF.out.size _) (by rw [HX.out.1, HX.out.2, HNP.out]; exact hown5) hgrow5
            rw [HNP.out, HNB.out, HNN.out] at hst
            have hcl : w5.cell? ⟨wr.heap.size, 2, none⟩ = some (.int .i64 T2) := cell_of_row _ _ 2 _ _ _ ((hgrow5.block wr.heap.size (by have := HSW.out; simp only [World.size_alloc]; omega) (fun e => by have := row_ge HO.out _ e.symm; omega)).trans (heapA HBK.out _))
            have HN : Hid (∃ x f', CR k w base v' T2 (bs) (pl + 1) (l ++ [x]) f' w5) := by obtain ⟨f', h⟩ := hst; exact ⟨_, f', h⟩
            clear hst hown5 hgrow5 HG HO HBF HX HL HBK HSW HNP HNB HNN HZ
            go_wp2
            go_roundw
            case rel => obtain ⟨x, f', h⟩ := HN.out; exact ⟨_, _, _, _, _, f', rfl, by go_num, by go_num, by go_num, h⟩
            case measure => simp [intOf]; omega
          · skip
            have HC : Hid (redC k at' bs pl = false) := by unfold Hid; rw [HRC.out, decide_eq_false hC, Bool.false_or, ← Bool.decide_and, decide_eq_false hE]
            have hat : at' < k.red - 1 := by omega
            have hto2 := pPc_to OK.out (at' := at') (e := k.red - 1) hb1'.1 hat (by omega)
            have hr0 := ro0_low OK.out (at' := at') hb1'.1 (by omega)
            have hpn := room_p OK.out 0 at' (.inl rfl) (((((w3.setCell ⟨wr.heap.size, 0, none⟩ (.int .i64 0)).setCell ⟨wr.heap.size, 1, none⟩ (.int .i64 at')).setCell ⟨wr.heap.size, 2, none⟩ (.int .i64 0)).setCell ⟨wr.heap.size, 3, none⟩ (.int .i64 0)).setCell ⟨wr.heap.size, 4, none⟩ (.int .i64 0)) hb1'.1 hb1'.2
            obtain ⟨T2, hT2⟩ : ∃ T2, min (at' + ro0 k at') (k.red - 1) = T2 := ⟨_, rfl⟩
            have HPP : Hid (pPc k at' (k.red - 1) = ⟨0, at', T2, 0, 0⟩) := by unfold Hid pPc; rw [hT2]
            have HNP : Hid (nxP k at' bs pl = ⟨0, at', T2, 0, 0⟩) := by unfold Hid nxP; rw [HC.out, if_neg (by simp), HPP.out]
            have HNB : Hid (nxB k at' bs pl = bs) := by unfold Hid nxB; rw [HC.out, if_neg (by simp)]
            have HNN : Hid (nxN k at' bs pl = pl + 1) := by unfold Hid nxN; rw [HC.out, if_neg (by simp)]
            rw [HPP.out] at hto2
            simp only at hto2
            generalize ro0 k at' = r0 at *
            have u5 : IntKind.i64.wrap (k.red - at' - 1) = k.red - at' - 1 := by rw [IntKind.wrap_i64]; omega
            have u6 : IntKind.i64.wrap (at' + min r0 (k.red - at' - 1)) = T2 := by rw [IntKind.wrap_i64]; omega
            have u7 : IntKind.i64.wrap (pl + 1) = pl + 1 := by rw [IntKind.wrap_i64]; omega
            clear HC HRC HPC HTD HPP hT2 u2 HEN
            have p0 : w3.cell? ⟨w.heap.size, 0, none⟩ = some (.int .i64 k.org) := cell_of_row _ _ 0 _ _ _ ((HB3.out.block w.heap.size (by have := HSZ.out; omega)).trans HG.out.ses)
            have p1 : w3.cell? ⟨w.heap.size, 1, none⟩ = some (.int .i64 k.num) := cell_of_row _ _ 1 _ _ _ ((HB3.out.block w.heap.size (by have := HSZ.out; omega)).trans HG.out.ses)
            have hn0 : w.heap.size ≠ wr.heap.size := by have := HSZ.out; omega
            have hn0' : wr.heap.size ≠ w.heap.size := by have := HSZ.out; omega
            go_wp2_with fail
            refine hpn.mono ?_
            rintro e w4 ⟨rfl, hb4⟩
            have hb4' := hb4.size
            simp only [World.setCell, Array.size_modify] at hb4'
            have HSW : Hid ((w4.setCell ⟨wr.heap.size, 2, none⟩ (.int .i64 T2)).heap.size = w4.heap.size ∧ wr.heap.size < w4.heap.size) := ⟨by simp [World.setCell], by have := HLT.out; omega⟩
            have HZ : Hid (w4.heap[wr.heap.size]? = some (.cells #[.int .i64 0, .int .i64 at', .int .i64 0, .int .i64 0, .int .i64 0] 46)) := (hb4.block wr.heap.size (by have := HLT.out; simp [World.setCell]; omega)).trans (setAll HZ3.out)
            have HB4 : Hid (Below wr.heap.size wr w4) := (five_below HB3.out (Nat.le_refl _) _ _ _ _ _).trans (hb4.mono (by have := HLT.out; simp [World.setCell]; omega))
            have HBF : Hid (Below wr.heap.size wr (w4.setCell ⟨wr.heap.size, 2, none⟩ (.int .i64 T2))) := HB4.out.setCell (Nat.le_refl _) _
            have HBK : Hid ((w4.setCell ⟨wr.heap.size, 2, none⟩ (.int .i64 T2)).heap[wr.heap.size]? = some (.cells #[.int .i64 0, .int .i64 at', .int .i64 T2, .int .i64 0, .int .i64 0] 46)) := set5 HZ.out
            clear hb4 hb4' hpn z0 z1 z2 z3 z4 f0 f1 f2 f3 f4 q0 q1 q2 q3 q4 p0 p1
            obtain ⟨z0, z1, z2, z3, z4, f0, f1, f2, f3, f4⟩ := box5 HZ.out
            have q2 : w4.cell? ⟨w.heap.size + 1, 2, none⟩ = some (.int .i64 k.red) := cell_of_row _ _ 2 _ _ _ ((HB4.out.block (w.heap.size + 1) (by have := HSZ.out; omega)).trans HG.out.pcl)
            clear HB4
            go_wp2_with (at_builtin; refine wpList_append_own_at _ rfl _ _ 31 rfl (w.heap.size + 2) 46 i0 (.agg #[.int .i64 0, .int .i64 0, .int .i64 0, .int .i64 0, .int .i64 0]) 5 40 Tryd.underlying31 hi hz0 hz1 hz2 rfl (by decide) _ _ _ rfl (World.ownsRow.alloc (own_below HO.out HBF.out) _) ⟨w4.heap.size, 0, none⟩ 1 1 [.int .i64 0, .int .i64 at', .int .i64 T2, .int .i64 0, .int .i64 0] rfl rfl ?c1 ?c2 ?c3 ?c4 ?c5 ?_)
            case c1 => exact cell_five _ _ _ _ _ _ _ _ (by simp)
            case c2 => intro x hx; simp only [List.mem_cons, List.not_mem_nil, or_false] at hx; rcases hx with rfl | rfl | rfl | rfl | rfl <;> rfl
            case c3 => have := HL.out; unfold maxLen; omega
            case c4 => have := HL.out; omega
            case c5 => have h1 := HSZ.out; have h2 := HSW.out; simp; omega
            intro v' w5 hown5 hgrow5 _ _
            have hst := HG.out.step OK.out hlt ⟨hb0, hb1⟩ (HBF.out.alloc HBF.out.size _) (by rw [HX.out.1, HX.out.2, HNP.out]; exact hown5) hgrow5
            rw [HNP.out, HNB.out, HNN.out] at hst
            have hcl : w5.cell? ⟨wr.heap.size, 2, none⟩ = some (.int .i64 T2) := cell_of_row _ _ 2 _ _ _ ((hgrow5.block wr.heap.size (by have := HSW.out; simp only [World.size_alloc]; omega) (fun e => by have := row_ge HO.out _ e.symm; omega)).trans (heapA HBK.out _))
            have HN : Hid (∃ x f', CR k w base v' T2 (bs) (pl + 1) (l ++ [x]) f' w5) := by obtain ⟨f', h⟩ := hst; exact ⟨_, f', h⟩
            clear hst hown5 hgrow5 HG HO HBF HX HL HBK HSW HNP HNB HNN HZ
            go_wp2
            go_roundw
            case rel => obtain ⟨x, f', h⟩ := HN.out; exact ⟨_, _, _, _, _, f', rfl, by go_num, by go_num, by go_num, h⟩
            case measure => simp [intOf]; omega
        obtain ⟨rfl, HL0, hgr⟩ := hg.green OK.out (by omega)
        have HS1 : Hid (CG k w l v k.red [] (k.size - k.red).toNat wr) := hgr
        have HL0' : Hid (l = redG k k.red.toNat 0 base 0) := HL0
        obtain ⟨_, _, y2, _, _, _, _, _, _, _⟩ := box5 hgr.pcl
        clear hg hgr HL0
        go_wp2_with fail
        go_loopw [10, 11] (fun p r wr => ∃ (v : Value) (at' : Int) (l1 : List Pc) (f : Nat), v = p ∧ r = .int .i64 at' ∧ CG k w l v at' l1 f wr) (fun _ r _ => (k.size - intOf r).toNat)
        case atStart => exact ⟨_, k.red, [], _, rfl, rfl, HS1.out⟩
        case round =>
          clear y2 HS1
          obtain ⟨v, at', l1, f, rfl, rfl, hg⟩ := hrel
          have HG : Hid (CG k w l v at' l1 f wr) := hg
          clear hg
          obtain ⟨y0, y1, y2, y3, y4, _, _, _, _, _⟩ := box5 HG.out.pcl
          by_cases hlt2 : at' < k.size
          · have hb1' : 0 ≤ at' ∧ at' ≤ 65535 := by have := OK.out.size; have := OK.out.red; have := HG.out.lo; omega
            have hb2 : k.size ≤ 65536 := OK.out.size.2
            have hto := gPc_to OK.out hb1'.1 hlt2
            have HL : Hid ((l ++ l1).length ≤ 65536) := by have := HG.out.len; have := OK.out.red; have := OK.out.size; unfold Hid; omega
            have hrm := room_p OK.out 4 at' (.inr rfl) (wr.alloc (.cells #[.int .i64 4, .int .i64 at', .int .i64 0, .int .i64 0, .int .i64 0] 46)) hb1'.1 hb1'.2
            have hro := ro0_low OK.out hb1'.1 (by omega)
            have s0 : (wr.alloc (.cells #[.int .i64 4, .int .i64 at', .int .i64 0, .int .i64 0, .int .i64 0] 46)).cell? ⟨w.heap.size, 0, none⟩ = some (.int .i64 k.org) := cell_of_row _ _ 0 _ _ _ (heapA HG.out.ses _)
            have s1 : (wr.alloc (.cells #[.int .i64 4, .int .i64 at', .int .i64 0, .int .i64 0, .int .i64 0] 46)).cell? ⟨w.heap.size, 1, none⟩ = some (.int .i64 k.num) := cell_of_row _ _ 1 _ _ _ (heapA HG.out.ses _)
            have t0 : (wr.alloc (.cells #[.int .i64 4, .int .i64 at', .int .i64 0, .int .i64 0, .int .i64 0] 46)).cell? ⟨w.heap.size + 1, 0, none⟩ = some (.int .i64 k.srv) := cell_of_row _ _ 0 _ _ _ (heapA HG.out.pcl _)
            have t1 : (wr.alloc (.cells #[.int .i64 4, .int .i64 at', .int .i64 0, .int .i64 0, .int .i64 0] 46)).cell? ⟨w.heap.size + 1, 1, none⟩ = some (.int .i64 k.size) := cell_of_row _ _ 1 _ _ _ (heapA HG.out.pcl _)
            have t2 : (wr.alloc (.cells #[.int .i64 4, .int .i64 at', .int .i64 0, .int .i64 0, .int .i64 0] 46)).cell? ⟨w.heap.size + 1, 2, none⟩ = some (.int .i64 k.red) := cell_of_row _ _ 2 _ _ _ (heapA HG.out.pcl _)
            have t3 : (wr.alloc (.cells #[.int .i64 4, .int .i64 at', .int .i64 0, .int .i64 0, .int .i64 0] 46)).cell? ⟨w.heap.size + 1, 3, none⟩ = some (.int .i64 k.mtu) := cell_of_row _ _ 3 _ _ _ (heapA HG.out.pcl _)
            have t4 : (wr.alloc (.cells #[.int .i64 4, .int .i64 at', .int .i64 0, .int .i64 0, .int .i64 0] 46)).cell? ⟨w.heap.size + 1, 4, none⟩ = some (.int .i64 k.every) := cell_of_row _ _ 4 _ _ _ (heapA HG.out.pcl _)
            have HGP : Hid (gPc k at' = ⟨if min (at' + ro0 k at') k.size = k.size then 7 else 4, at', min (at' + ro0 k at') k.size, 0, 0⟩) := rfl
            obtain ⟨T, hT⟩ : ∃ T, min (at' + ro0 k at') k.size = T := ⟨_, rfl⟩
            rw [hT] at HGP
            rw [HGP.out] at hto
            simp only at hto
            have HTD : Hid (min (at' + ro0 k at') k.size = T) := hT
            generalize ro0 k at' = ro at *
            have u1 : IntKind.i64.wrap (k.size - at') = k.size - at' := by rw [IntKind.wrap_i64]; omega
            have u2 : IntKind.i64.wrap (at' + min ro (k.size - at')) = T := by rw [IntKind.wrap_i64]; omega
            clear hT
            have HSZ : Hid (w.heap.size + 2 ≤ wr.heap.size) := HG.out.size
            go_wp2_with fail
            refine hrm.mono ?_
            rintro e w3 ⟨rfl, hb3⟩
            obtain ⟨z0, z1, z2, z3, z4, f0, f1, f2, f3, f4⟩ := box5 ((hb3.block wr.heap.size (by simp)).trans (heap_alloc_new' _ _))
            have q1 : w3.cell? ⟨w.heap.size + 1, 1, none⟩ = some (.int .i64 k.size) := cell_of_row _ _ 1 _ _ _ ((hb3.block _ (by have := HSZ.out; simp; omega)).trans (heapA HG.out.pcl _))
            clear hrm s0 s1 y0 y1 y2 y3 y4 t0 t1 t2 t3 t4
            have hne : w.heap.size + 1 ≠ wr.heap.size := by have := HSZ.out; omega
            have hne' : wr.heap.size ≠ w.heap.size + 1 := by have := HSZ.out; omega
            obtain ⟨a, cap, hv⟩ := own_shp HG.out.own
            have HO : Hid (wr.ownsRow (w.heap.size + 2) 46 5 v (l ++ l1).length ((l ++ l1).flatMap pcL)) := HG.out.own
            subst hv
            obtain ⟨X, hX⟩ : ∃ X, (l ++ l1).flatMap pcL = X := ⟨_, rfl⟩
            obtain ⟨m, hm⟩ : ∃ m, (l ++ l1).length = m := ⟨_, rfl⟩
            rw [hX, hm] at HO
            rw [hm] at HG HL
            have HX : Hid ((l ++ l1).flatMap pcL = X ∧ (l ++ l1).length = m) := ⟨hX, hm⟩
            rw [hm]
            clear hX hm
            have HZ : Hid (w3.heap[wr.heap.size]? = some (.cells #[.int .i64 4, .int .i64 at', .int .i64 0, .int .i64 0, .int .i64 0] 46)) := (hb3.block wr.heap.size (by simp)).trans (heap_alloc_new' _ _)
            have HB3 : Hid (Below wr.heap.size wr w3) := ((Below.refl _ _).alloc (Nat.le_refl _) _).trans (hb3.mono (by simp))
            by_cases hTs : T = k.size
            · subst hTs
              have HBF : Hid (Below wr.heap.size wr ((w3.setCell ⟨wr.heap.size, 2, none⟩ (.int .i64 k.size)).setCell ⟨wr.heap.size, 0, none⟩ (.int .i64 7))) := (HB3.out.setCell (Nat.le_refl _) _).setCell (Nat.le_refl _) _
              have HBK : Hid (((w3.setCell ⟨wr.heap.size, 2, none⟩ (.int .i64 k.size)).setCell ⟨wr.heap.size, 0, none⟩ (.int .i64 7)).heap[wr.heap.size]? = some (.cells #[.int .i64 7, .int .i64 at', .int .i64 k.size, .int .i64 0, .int .i64 0] 46)) := set50 (set5 HZ.out)
              have HSW : Hid (((w3.setCell ⟨wr.heap.size, 2, none⟩ (.int .i64 k.size)).setCell ⟨wr.heap.size, 0, none⟩ (.int .i64 7)).heap.size = w3.heap.size ∧ wr.heap.size < w3.heap.size) := ⟨by simp [World.setCell], by have := hb3.size; simp at this; omega⟩
              have HGE : Hid (gPc k at' = ⟨7, at', k.size, 0, 0⟩) := by unfold Hid; rw [HGP.out, if_pos rfl]
              clear hb3 HZ
              go_wp2_with (at_builtin; refine wpList_append_own_at _ rfl _ _ 31 rfl (w.heap.size + 2) 46 i0 (.agg #[.int .i64 0, .int .i64 0, .int .i64 0, .int .i64 0, .int .i64 0]) 5 40 Tryd.underlying31 hi hz0 hz1 hz2 rfl (by decide) _ _ _ rfl (World.ownsRow.alloc (own_below HO.out HBF.out) _) ⟨w3.heap.size, 0, none⟩ 1 1 [.int .i64 7, .int .i64 at', .int .i64 k.size, .int .i64 0, .int .i64 0] rfl rfl ?c1 ?c2 ?c3 ?c4 ?c5 ?_)
              case c1 => exact cell_five _ _ _ _ _ _ _ _ (by simp)
              case c2 => intro x hx; simp only [List.mem_cons, List.not_mem_nil, or_false] at hx; rcases hx with rfl | rfl | rfl | rfl | rfl <;> rfl
              case c3 => have := HL.out; unfold maxLen; omega
              case c4 => have := HL.out; omega
              case c5 => have h1 := HSZ.out; have h2 := HSW.out; simp; omega
              intro v' w5 hown5 hgrow5 _ _
              have hst := HG.out.step OK.out hlt2 (HBF.out.alloc HBF.out.size _) (by rw [HX.out.1, HX.out.2, HGE.out]; exact hown5) hgrow5
              rw [HGE.out] at hst
              have hcl : w5.cell? ⟨wr.heap.size, 2, none⟩ = some (.int .i64 (k.size)) := cell_of_row _ _ 2 _ _ _ ((hgrow5.block wr.heap.size (by have := HSW.out; simp only [World.size_alloc]; omega) (fun e => by have := row_ge HO.out _ e.symm; omega)).trans (heapA HBK.out _))
              have HN : Hid (∃ x f', CG k w l v' (k.size) (l1 ++ [x]) f' w5) := by obtain ⟨f', h⟩ := hst; exact ⟨_, f', h⟩
              clear hst hown5 hgrow5 HG HO HBF HX HL HBK HSW
              go_wp2
              go_roundw
              case rel => obtain ⟨x, f', h⟩ := HN.out; exact ⟨_, _, _, f', rfl, by go_num, h⟩
              case measure => simp [intOf]; omega
            · have e1 : (T == k.size) = false := beq_false_of_ne hTs
              have HBF : Hid (Below wr.heap.size wr (w3.setCell ⟨wr.heap.size, 2, none⟩ (.int .i64 T))) := HB3.out.setCell (Nat.le_refl _) _
              have HBK : Hid ((w3.setCell ⟨wr.heap.size, 2, none⟩ (.int .i64 T)).heap[wr.heap.size]? = some (.cells #[.int .i64 4, .int .i64 at', .int .i64 T, .int .i64 0, .int .i64 0] 46)) := set5 HZ.out
              have HSW : Hid ((w3.setCell ⟨wr.heap.size, 2, none⟩ (.int .i64 T)).heap.size = w3.heap.size ∧ wr.heap.size < w3.heap.size) := ⟨by simp [World.setCell], by have := hb3.size; simp at this; omega⟩
              have HGE : Hid (gPc k at' = ⟨4, at', T, 0, 0⟩) := by unfold Hid; rw [HGP.out, if_neg hTs]
              clear hb3 HZ
              go_wp2_with (at_builtin; refine wpList_append_own_at _ rfl _ _ 31 rfl (w.heap.size + 2) 46 i0 (.agg #[.int .i64 0, .int .i64 0, .int .i64 0, .int .i64 0, .int .i64 0]) 5 40 Tryd.underlying31 hi hz0 hz1 hz2 rfl (by decide) _ _ _ rfl (World.ownsRow.alloc (own_below HO.out HBF.out) _) ⟨w3.heap.size, 0, none⟩ 1 1 [.int .i64 4, .int .i64 at', .int .i64 T, .int .i64 0, .int .i64 0] rfl rfl ?c1 ?c2 ?c3 ?c4 ?c5 ?_)
              case c1 => exact cell_five _ _ _ _ _ _ _ _ (by simp)
              case c2 => intro x hx; simp only [List.mem_cons, List.not_mem_nil, or_false] at hx; rcases hx with rfl | rfl | rfl | rfl | rfl <;> rfl
              case c3 => have := HL.out; unfold maxLen; omega
              case c4 => have := HL.out; omega
              case c5 => have h1 := HSZ.out; have h2 := HSW.out; simp; omega
              intro v' w5 hown5 hgrow5 _ _
              have hst := HG.out.step OK.out hlt2 (HBF.out.alloc HBF.out.size _) (by rw [HX.out.1, HX.out.2, HGE.out]; exact hown5) hgrow5
              rw [HGE.out] at hst
              have hcl : w5.cell? ⟨wr.heap.size, 2, none⟩ = some (.int .i64 (T)) := cell_of_row _ _ 2 _ _ _ ((hgrow5.block wr.heap.size (by have := HSW.out; simp only [World.size_alloc]; omega) (fun e => by have := row_ge HO.out _ e.symm; omega)).trans (heapA HBK.out _))
              have HN : Hid (∃ x f', CG k w l v' (T) (l1 ++ [x]) f' w5) := by obtain ⟨f', h⟩ := hst; exact ⟨_, f', h⟩
              clear hst hown5 hgrow5 HG HO HBF HX HL HBK HSW
              go_wp2
              go_roundw
              case rel => obtain ⟨x, f', h⟩ := HN.out; exact ⟨_, _, _, f', rfl, by go_num, h⟩
              case measure => simp [intOf]; omega
          · have HP : Hid (POwn wr w.heap.size v (cutL k base) ∧ Below w.heap.size w wr) := by
              have hd := HG.out
              rw [HL0'.out] at hd
              exact ⟨hd.done (by omega), hd.bel⟩
            clear HG
            go_wp2
            go_ret2
            exact ⟨v, by rw [HQ.out]; rfl, by rw [HQ.out]; exact HP.out.1, HP.out.2⟩

end Go.Proofs.YtlagadpfnkidjadDoor
