import Derived.Test.YtllhbhogfffedaaGreatDoorRcRd2
namespace Go.Proofs.YtllhbhogfffedaaGreatDoor
open Go.RowKit
set_option linter.unusedVariables false
set_option linter.unusedSimpArgs false

/-- The numbers as they stand in their block, so many read. -/
abbrev NbB (W : World) (nb : Nat) (l : List Int) (k : Nat) : Prop := Blk .i64 W nb 201 (l ++ List.replicate (8 - k) 0)
theorem NbB.put {W : World} {nb k : Nat} {l : List Int} {n : Int} (h : NbB W nb l k) (hl : l.length = k) (hk : k < 8) : NbB (W.setCell ⟨nb, k, none⟩ (.int .i64 n)) nb (l ++ [n]) (k + 1) := by
  have h1 := Blk.set h k n
  have e : (l ++ List.replicate (8 - k) (0 : Int)).set k n = l ++ [n] ++ List.replicate (8 - (k + 1)) 0 := by
    subst hl
    rw [List.set_append_right _ _ (Nat.le_refl _), Nat.sub_self]
    obtain ⟨m, hm⟩ : ∃ m, 8 - l.length = m + 1 := ⟨7 - l.length, by omega⟩
    rw [hm, show 8 - (l.length + 1) = m by omega, List.replicate_succ, List.set_cons_zero]
    simp
  rw [e] at h1
  exact h1
theorem NbB.zero {W : World} {nb k : Nat} {l : List Int} (h : NbB W nb l k) (hk : k < 8) : NbB W nb (l ++ [0]) (k + 1) := by
  have e : l ++ List.replicate (8 - k) (0 : Int) = l ++ [0] ++ List.replicate (8 - (k + 1)) 0 := by
    obtain ⟨m, hm⟩ : ∃ m, 8 - k = m + 1 := ⟨7 - k, by omega⟩
    rw [hm, show 8 - (k + 1) = m by omega, List.replicate_succ]
    simp
  unfold NbB at *
  rw [← e]
  exact h
theorem NbB.at {W : World} {nb k : Nat} {l : List Int} (h : NbB W nb l k) (hl : l.length = k) (hk : k < 8) : W.cell? ⟨nb, k, none⟩ = some (.int .i64 0) ∧ W.frozen? ⟨nb, k, none⟩ = false := by
  refine ⟨(Blk.cell h k (by simp; omega)).trans ?_, Blk.frozen h k⟩
  rw [List.getD_eq_getElem?_getD, List.getElem?_append_right (by omega), hl, Nat.sub_self, List.getElem?_replicate, if_pos (by omega)]
  rfl
theorem grow_other {w W W' : World} {rb g' : Nat} (h : w.grownBy W (some rb)) (h1 : W.grownBy W' (some g')) (hg : w.heap.size ≤ g') : w.grownBy W' (some rb) := by
  have := h.size
  exact ⟨h1.os.trans h.os, h1.tape.trans h.tape, h1.output.trans h.output, Nat.le_trans h.size h1.size, fun k hk hne => (h1.block k (by omega) (by simp; omega)).trans (h.block k hk hne)⟩
theorem eight {l : List Int} (h : l.length = 8) : ∃ n0 n1 n2 n3 n4 n5 n6 n7, l = [n0, n1, n2, n3, n4, n5, n6, n7] := by
  match l, h with
  | [n0, n1, n2, n3, n4, n5, n6, n7], _ => exact ⟨_, _, _, _, _, _, _, _, rfl⟩
theorem own_sl {w : World} {base size n : Nat} {e : TypeId} {v : Value} {xs : List Value} (h : w.ownsRow base e size v n xs) : ∃ a cap, v = .slice a n cap := by
  obtain ⟨_, ⟨rfl, rfl⟩ | ⟨g, cap, cur, rfl, _⟩⟩ := h
  · exact ⟨_, _, rfl⟩
  · exact ⟨_, _, rfl⟩
theorem not_both {k : Int} (h : hasB (kf k) 8 = true) : hasB (kf k) 9 = false := by
  by_cases h0 : kf k = 0
  · rw [h0] at h; exact absurd h (by decide)
  · have := has8 h0 h; subst this; decide

set_option maxRecDepth 100000 in
set_option maxHeartbeats 4000000 in
theorem record_any (rb g : Nat) (zs : List Int) (w : World) (hT : Tab6 w) (h : RdS w rb g zs) (hb : Bytey zs) (hz : zs.length ≤ 131072) (hgl : g < w.heap.size) (hr0 : 4 < rb) :
    Calls Tryz.prog 116 #[.pointer (some ⟨rb, 0, none⟩)] w (RecPost (recP zs) w rb g) := by
  have hb0 : Below w.heap.size w (w.alloc (rcO rz0 (.slice none 0 0) (.slice none 0 0))) := (Below.refl _ _).alloc (Nat.le_refl _) _
  have HZ0 : Hid ((w.alloc (rcO rz0 (.slice none 0 0) (.slice none 0 0))).heap[w.heap.size]? = some (rcO rz0 (.slice none 0 0) (.slice none 0 0))) := heap_new6 w _
  have hrl := h.rblt
  have hne := h.ne
  have HR0 : Hid (RdS (w.alloc (rcO rz0 (.slice none 0 0) (.slice none 0 0))) rb g zs) := h.below hb0
  have HG0 : Hid (w.grownBy (w.alloc (rcO rz0 (.slice none 0 0) (.slice none 0 0))) (some rb)) := grow_below (World.grownBy.refl _ _) hb0 (Nat.le_refl _)
  have HT : Hid (Tab6 w) := hT
  have hs0 : (w.alloc (rcO rz0 (.slice none 0 0) (.slice none 0 0))).heap.size = w.heap.size + 1 := by simp
  clear h hT hb0
  cases zs with
  | nil =>
    have HT1 := take_no rb g [] 1 _ HR0.out (by simp)
    go_enter Tryz.func116, Tryz.ntmps116
    go_wp2_with (go_at_call 126; refine HT1.mono ?_; rintro e w1 ⟨rfl, rfl⟩)
    exact ⟨rfl, rfl, HG0.out⟩
  | cons kd t0 =>
    have hkd := hb kd (by simp)
    have HBT : Hid (Bytey t0) := fun z hz => hb z (List.mem_cons_of_mem _ hz)
    have hl0 : t0.length ≤ 131072 := by simp at hz; omega
    have HT1 := take_ok rb g (kd :: t0) 1 _ HR0.out (by simp)
    have hkw : IntKind.i64.wrap kd = kd := by rw [IntKind.wrap_i64]; omega
    have HE : Hid (recP (kd :: t0) = match nmP (kf kd) 8 t0 with
      | none => none
      | some (l, t1) => if hasB (kf kd) 8 then (match spsP t1 with | none => none | some (s, t2) => some ({ mkR kd l with spans := s }, t2)) else if hasB (kf kd) 9 then (match numP t1 with | none => none | some (n, t2) => if n ≤ t2.length then some ({ mkR kd l with data := t2.take n.toNat }, t2.drop n.toNat) else none) else some (mkR kd l, t1)) := rfl
    have HNB : Hid (hasB (kf kd) 8 = true → hasB (kf kd) 9 = false) := not_both
    generalize recP (kd :: t0) = Q at *
    clear hb hz
    go_enter Tryz.func116, Tryz.ntmps116
    go_upto_region 2 with (go_at_call 126; refine HT1.mono ?_; rintro e w1 ⟨⟨off, c, rfl, hkc, hcl⟩, hr1, hg1⟩; have q0 := hcl 0 (by omega); rw [Nat.add_zero] at q0; simp only [List.getD_cons_zero] at q0; have HR1 : Hid (RdS w1 rb g t0) := hr1; have HG1 : Hid (w.grownBy w1 (some rb)) := grown_trans HG0.out hg1; have HZ1 : Hid (w1.heap[w.heap.size]? = some (rcO rz0 (.slice none 0 0) (.slice none 0 0))) := (hg1.block _ (by omega) (by simp; omega)).trans HZ0.out; have hs1 : w.heap.size + 1 ≤ w1.heap.size := (by have := hg1.size; omega); clear hcl hr1 hg1)
    clear q0
    go_wp2_with (go_at_call 118; refine (fieldsOf_any kd _ (HT.out.grown HG1.out hr0)).mono ?_; rintro e w2 ⟨rfl, rfl⟩)
    have hb2 : Below w1.heap.size w1 (w1.alloc (Obj.cells #[.int .i64 0, .int .i64 0, .int .i64 0, .int .i64 0, .int .i64 0, .int .i64 0, .int .i64 0, .int .i64 0] 201)) := (Below.refl _ _).alloc (Nat.le_refl _) _
    have HN2 : Hid (NbB (w1.alloc (Obj.cells #[.int .i64 0, .int .i64 0, .int .i64 0, .int .i64 0, .int .i64 0, .int .i64 0, .int .i64 0, .int .i64 0] 201)) w1.heap.size [] 0) := heap_new6 w1 _
    have hs2 : (w1.alloc (Obj.cells #[.int .i64 0, .int .i64 0, .int .i64 0, .int .i64 0, .int .i64 0, .int .i64 0, .int .i64 0, .int .i64 0] 201)).heap.size = w1.heap.size + 1 := by simp
    generalize w1.alloc (Obj.cells #[.int .i64 0, .int .i64 0, .int .i64 0, .int .i64 0, .int .i64 0, .int .i64 0, .int .i64 0, .int .i64 0] 201) = w2 at *
    have HR2 : Hid (RdS w2 rb g t0) := HR1.out.below hb2
    have HG2 : Hid (w.grownBy w2 (some rb)) := grow_below HG1.out hb2 (by omega)
    have HZ2 : Hid (w2.heap[w.heap.size]? = some (rcO rz0 (.slice none 0 0) (.slice none 0 0))) := (hb2.block _ (by omega)).trans HZ1.out
    clear hb2 HR1 HG1 HZ1 HR0 HG0 HZ0 HT1
    generalize hnb : w1.heap.size = nb at *
    have hnb1 : w.heap.size < nb := by omega
    generalize kf kd = f at *
    go_loopw [15] (fun i wr => ∃ (k : Nat) (l t : List Int), k ≤ 8 ∧ i = .int .i64 k ∧ nmP f k t0 = some (l, t) ∧ NbB wr nb l k ∧ RdS wr rb g t ∧ w.grownBy wr (some rb) ∧ wr.heap[w.heap.size]? = some (rcO rz0 (.slice none 0 0) (.slice none 0 0)) ∧ nb < wr.heap.size) (fun i _ => 8 - (intOf i).toNat)
    case atStart => exact ⟨0, [], t0, by omega, rfl, rfl, HN2.out, HR2.out, HG2.out, HZ2.out, by omega⟩
    case round =>
      obtain ⟨k, l, t, hk, rfl, hnp, hnb2, hrd, hgr, hzz, hnl⟩ := hrel
      have HNP : Hid (nmP f k t0 = some (l, t)) := hnp
      have HNb : Hid (NbB wr nb l k) := hnb2
      have HRD : Hid (RdS wr rb g t) := hrd
      have HGR : Hid (w.grownBy wr (some rb)) := hgr
      have HZZ : Hid (wr.heap[w.heap.size]? = some (rcO rz0 (.slice none 0 0) (.slice none 0 0))) := hzz
      obtain ⟨hll, hbt, hlt⟩ := nmP_by HBT.out hnp
      have HBt : Hid (Bytey t) := hbt
      have hsw := hgr.size
      clear hnp hnb2 hrd hgr hzz hbt HN2 HR2 HG2 HZ2
      by_cases hk8 : k < 8
      · have hk8' : (k : Int) < 8 := by omega
        obtain ⟨b, hbv⟩ : ∃ b, hasB f k = b := ⟨_, rfl⟩
        have HH : Hid (∀ W, Calls Tryz.prog 122 #[.int .u16 f, .int .i64 k] W fun e w' => e = .returned (.bool b) ∧ W = w') := fun W => hbv ▸ rhas_any f k W (by omega)
        obtain ⟨n0, n1⟩ := HNb.out.at hll hk8
        cases b with
        | false =>
          have HP1 : Hid (nmP f (k + 1) t0 = some (l ++ [0], t)) := by unfold Hid; simp only [nmP, HNP.out, hbv]; simp
          clear hbv
          go_wp2_with (go_at_call 122; refine (HH.out _).mono ?_; rintro e w3 ⟨rfl, rfl⟩)
          go_roundw
          case rel => exact ⟨k + 1, l ++ [0], t, by omega, by go_num, HP1.out, HNb.out.zero hk8, HRD.out, HGR.out, HZZ.out, hnl⟩
          case measure => simp [intOf]; omega
        | true =>
          cases hn1 : numP t with
          | none =>
            have HQN : Hid (Q = none) := by
              have h1 : nmP f (k + 1) t0 = none := by simp only [nmP, HNP.out, hbv, hn1]; simp
              have h2 := nmP_no h1 (8 - (k + 1))
              rw [show k + 1 + (8 - (k + 1)) = 8 by omega] at h2
              unfold Hid; rw [HE.out, h2]
            have HN1 := num_no rb g t wr HRD.out HBt.out hn1
            clear hn1 hbv
            go_wp2_with (first | (go_at_call 122; refine (HH.out _).mono ?_; rintro e w3 ⟨rfl, rfl⟩) | (go_at_call 127; refine HN1.mono ?_; rintro e w3 ⟨rfl, rfl⟩))
            refine ⟨rfl, ?_⟩
            show RecPost Q w rb g _ _
            rw [HQN.out]
            exact ⟨rfl, HGR.out⟩
          | some p1 =>
            obtain ⟨n, t1⟩ := p1
            have HP1 : Hid (nmP f (k + 1) t0 = some (l ++ [n], t1)) := by unfold Hid; simp only [nmP, HNP.out, hbv, hn1]; simp
            have HN1 := num_ok rb g t t1 n wr HRD.out HBt.out hn1
            clear hn1 hbv
            go_wp2_with (first | (go_at_call 122; refine (HH.out _).mono ?_; rintro e w3 ⟨rfl, rfl⟩) | (go_at_call 127; refine HN1.mono ?_; rintro e w3 ⟨rfl, hr3, hg3⟩; have HB3 : Hid (NbB w3 nb l k) := (hg3.block nb hnl (by simp; omega)).trans HNb.out; obtain ⟨m0, m1⟩ := HB3.out.at hll hk8; have HR3 : Hid (RdS w3 rb g t1) := hr3; have HG3 : Hid (w.grownBy w3 (some rb)) := grown_trans HGR.out hg3; have HZ3 : Hid (w3.heap[w.heap.size]? = some (rcO rz0 (.slice none 0 0) (.slice none 0 0))) := (hg3.block _ (by omega) (by simp; omega)).trans HZZ.out; have hs3 := hg3.size; clear hr3 hg3))
            have HB4 : Hid (NbB (w3.setCell ⟨nb, k, none⟩ (.int .i64 n)) nb (l ++ [n]) (k + 1)) := HB3.out.put hll hk8
            have HR4 : Hid (RdS (w3.setCell ⟨nb, k, none⟩ (.int .i64 n)) rb g t1) := HR3.out.keep (grown_set _ _ _ _) (by simp; omega) (by simp; omega)
            have HG4 : Hid (w.grownBy (w3.setCell ⟨nb, k, none⟩ (.int .i64 n)) (some rb)) := grow_new HG3.out (by omega) _
            have HZ4 : Hid ((w3.setCell ⟨nb, k, none⟩ (.int .i64 n)).heap[w.heap.size]? = some (rcO rz0 (.slice none 0 0) (.slice none 0 0))) := ((grown_set w3 nb k (.int .i64 n)).block _ (by omega) (by simp; omega)).trans HZ3.out
            have hs4 : (w3.setCell ⟨nb, k, none⟩ (.int .i64 n)).heap.size = w3.heap.size := by simp [World.setCell]
            go_roundw
            case rel => exact ⟨k + 1, l ++ [n], t1, by omega, by go_num, HP1.out, HB4.out, HR4.out, HG4.out, HZ4.out, by omega⟩
            case measure => simp [intOf]; omega
      · obtain rfl : k = 8 := by omega
        obtain ⟨n0, n1, n2, n3, n4, n5, n6, n7, rfl⟩ := eight hll
        have e0 : wr.cell? ⟨nb, 0, none⟩ = some (.int .i64 n0) := Blk.cell HNb.out 0 (by simp)
        have e1 : wr.cell? ⟨nb, 1, none⟩ = some (.int .i64 n1) := Blk.cell HNb.out 1 (by simp)
        have e2 : wr.cell? ⟨nb, 2, none⟩ = some (.int .i64 n2) := Blk.cell HNb.out 2 (by simp)
        have e3 : wr.cell? ⟨nb, 3, none⟩ = some (.int .i64 n3) := Blk.cell HNb.out 3 (by simp)
        have e4 : wr.cell? ⟨nb, 4, none⟩ = some (.int .i64 n4) := Blk.cell HNb.out 4 (by simp)
        have e5 : wr.cell? ⟨nb, 5, none⟩ = some (.int .i64 n5) := Blk.cell HNb.out 5 (by simp)
        have e6 : wr.cell? ⟨nb, 6, none⟩ = some (.int .i64 n6) := Blk.cell HNb.out 6 (by simp)
        have e7 : wr.cell? ⟨nb, 7, none⟩ = some (.int .i64 n7) := Blk.cell HNb.out 7 (by simp)
        have HQ0 : Hid (Q = if hasB f 8 then (match spsP t with | none => none | some (s, t2) => some ({ (⟨kd, n0, n1, n2, n3, n4, n5, n6, n7, [], []⟩ : Rc) with spans := s }, t2)) else if hasB f 9 then (match numP t with | none => none | some (n, t2) => if n ≤ t2.length then some ({ (⟨kd, n0, n1, n2, n3, n4, n5, n6, n7, [], []⟩ : Rc) with data := t2.take n.toNat }, t2.drop n.toNat) else none) else some ((⟨kd, n0, n1, n2, n3, n4, n5, n6, n7, [], []⟩ : Rc), t)) := by
          unfold Hid; rw [HE.out, HNP.out]; rfl
        have ht0 : t.length ≤ 131072 := by omega
        clear HE HNP
        go_upto_region 11 with (go_at_call 128; refine (numrec_any kd n0 n1 n2 n3 n4 n5 n6 n7 _).mono ?_; rintro e w4 ⟨rfl, hb4⟩)
        have hs4 := hb4.size
        have hb5 : Below w4.heap.size w4 (w4.alloc (rcO (⟨kd, n0, n1, n2, n3, n4, n5, n6, n7, [], []⟩ : Rc) (.slice none 0 0) (.slice none 0 0))) := (Below.refl _ _).alloc (Nat.le_refl _) _
        have HX5 : Hid ((w4.alloc (rcO (⟨kd, n0, n1, n2, n3, n4, n5, n6, n7, [], []⟩ : Rc) (.slice none 0 0) (.slice none 0 0))).heap[w4.heap.size]? = some (rcO (⟨kd, n0, n1, n2, n3, n4, n5, n6, n7, [], []⟩ : Rc) (.slice none 0 0) (.slice none 0 0))) := heap_new6 w4 _
        have hs5 : (w4.alloc (rcO (⟨kd, n0, n1, n2, n3, n4, n5, n6, n7, [], []⟩ : Rc) (.slice none 0 0) (.slice none 0 0))).heap.size = w4.heap.size + 1 := by simp
        generalize w4.alloc (rcO (⟨kd, n0, n1, n2, n3, n4, n5, n6, n7, [], []⟩ : Rc) (.slice none 0 0) (.slice none 0 0)) = w5 at *
        have HR5 : Hid (RdS w5 rb g t) := (HRD.out.below hb4).below hb5
        have HG5 : Hid (w.grownBy w5 (some rb)) := grow_below (grow_below HGR.out hb4 (by omega)) hb5 (by omega)
        have HZ5 : Hid (w5.heap[w.heap.size]? = some (rcO rz0 (.slice none 0 0) (.slice none 0 0))) := (hb5.block _ (by omega)).trans ((hb4.block _ (by omega)).trans HZZ.out)
        clear hb4 hb5 e0 e1 e2 e3 e4 e5 e6 e7 HRD HGR HZZ HNb
        generalize hbx : w4.heap.size = bx at *
        cases hb8 : hasB f 8 with
        | false =>
          have H8h : Hid (∀ W, Calls Tryz.prog 122 #[.int .u16 f, .int .i64 8] W fun e w' => e = .returned (.bool false) ∧ W = w') := fun W => hb8 ▸ rhas_any f 8 W (by omega)
          cases hb9 : hasB f 9 with
          | false =>
            have H9h : Hid (∀ W, Calls Tryz.prog 122 #[.int .u16 f, .int .i64 9] W fun e w' => e = .returned (.bool false) ∧ W = w') := fun W => hb9 ▸ rhas_any f 9 W (by omega)
            have HQ : Hid (Q = some ((⟨kd, n0, n1, n2, n3, n4, n5, n6, n7, [], []⟩ : Rc), t)) := by unfold Hid; rw [HQ0.out, hb8, hb9]; rfl
            have HSO : Hid (C.SOwn w5 w5.heap.size (.slice none 0 0) []) := C.SOwn.nil _ _
            have HDO : Hid (w5.ownsRow w5.heap.size 5 1 (.slice none 0 0) 0 []) := World.ownsRow_nil _ _ _ _
            clear HQ0 hb8 hb9
            obtain ⟨x0, x1, x2, x3, x4, x5, x6, x7, x8, x9, x10⟩ := rc_cells HX5.out
            obtain ⟨y0, y1, y2, y3, y4, y5, y6, y7, y8, y9, y10⟩ := rc_cells HZ5.out
            have fz := rc_frozen HZ5.out
            go_wp2_with (first | (go_at_call_of 122 (Value.int .i64 8); refine (H8h.out _).mono ?_; rintro e w' ⟨rfl, rfl⟩) | (go_at_call_of 122 (Value.int .i64 9); refine (H9h.out _).mono ?_; rintro e w' ⟨rfl, rfl⟩))
            change bodyPost _ _ _ _ _ (rS w5 w.heap.size (⟨kd, n0, n1, n2, n3, n4, n5, n6, n7, [], []⟩ : Rc) (.slice none 0 0) (.slice none 0 0))
            have hlv := fun j => cell_of_row _ w.heap.size j _ _ _ (rS_heap w5 w.heap.size (⟨kd, n0, n1, n2, n3, n4, n5, n6, n7, [], []⟩ : Rc) rz0 (.slice none 0 0) (.slice none 0 0) _ _ HZ5.out)
            have hrg := rS_grown w5 w.heap.size (⟨kd, n0, n1, n2, n3, n4, n5, n6, n7, [], []⟩ : Rc) (.slice none 0 0) (.slice none 0 0)
            generalize rS w5 w.heap.size (⟨kd, n0, n1, n2, n3, n4, n5, n6, n7, [], []⟩ : Rc) (.slice none 0 0) (.slice none 0 0) = WF at *
            clear x0 x1 x2 x3 x4 x5 x6 x7 x8 x9 x10 y0 y1 y2 y3 y4 y5 y6 y7 y8 y9 y10 fz
            refine bodyPost_ret (v := .agg (rcC (⟨kd, n0, n1, n2, n3, n4, n5, n6, n7, [], []⟩ : Rc) (.slice none 0 0) (.slice none 0 0))) (by simp [results, Tryz.results116, go_sem, rcC, hlv]) rfl ?_
            show RecPost Q w rb g _ _
            rw [HQ.out]
            exact ⟨⟨(.slice none 0 0), (.slice none 0 0), rfl, own_base6 (own_keep6 HSO.out hrg (by intro j hj; have := (HSO.out.lt j hj).1; simp; omega)) (by omega), own_base6 (own_keep6 HDO.out hrg (by intro j hj; have := (HDO.out.lt j hj).1; simp; omega)) (by omega), (fun j hj => by simp [Value.ownBlock] at hj), HR5.out.keep hrg (by simp; omega) (by simp; omega)⟩, grow_other HG5.out hrg (Nat.le_refl _)⟩
          | true =>
            have H9h : Hid (∀ W, Calls Tryz.prog 122 #[.int .u16 f, .int .i64 9] W fun e w' => e = .returned (.bool true) ∧ W = w') := fun W => hb9 ▸ rhas_any f 9 W (by omega)
            have HSO : Hid (C.SOwn w5 w5.heap.size (.slice none 0 0) []) := C.SOwn.nil _ _
            cases hn1 : numP t with
            | none =>
              have HQN : Hid (Q = none) := by unfold Hid; rw [HQ0.out, hb8, hb9, hn1]; rfl
              have HN1 := num_no rb g t w5 HR5.out HBt.out hn1
              clear HQ0 hb8 hb9 hn1
              go_wp2_with (first | (go_at_call_of 122 (Value.int .i64 8); refine (H8h.out _).mono ?_; rintro e w' ⟨rfl, rfl⟩) | (go_at_call_of 122 (Value.int .i64 9); refine (H9h.out _).mono ?_; rintro e w' ⟨rfl, rfl⟩) | (go_at_call 127; refine HN1.mono ?_; rintro e w3 ⟨rfl, rfl⟩))
              refine ⟨rfl, ?_⟩
              show RecPost Q w rb g _ _
              rw [HQN.out]
              exact ⟨rfl, HG5.out⟩
            | some p1 =>
              obtain ⟨n, t1⟩ := p1
              have HN1 := num_ok rb g t t1 n w5 HR5.out HBt.out hn1
              obtain ⟨hn0', hn1'⟩ := numP_bd HBt.out hn1
              obtain ⟨hbt1, hlt1⟩ := numP_by HBt.out hn1
              obtain ⟨m, rfl⟩ : ∃ m : Nat, n = (m : Int) := ⟨n.toNat, by omega⟩
              by_cases hmt : m ≤ t1.length
              · have HQ : Hid (Q = some (⟨kd, n0, n1, n2, n3, n4, n5, n6, n7, [], t1.take m⟩, t1.drop m)) := by unfold Hid; rw [HQ0.out, hb8, hb9, hn1]; simp only [Bool.false_eq_true, if_false, if_true]; rw [if_pos (by omega)]; rfl
                clear HQ0 hb8 hb9 hn1
                have htl : (t1.take m).length = m := by rw [List.length_take]; omega
                go_upto_region 15 with (first | (go_at_call_of 122 (Value.int .i64 8); refine (H8h.out _).mono ?_; rintro e w' ⟨rfl, rfl⟩) | (go_at_call_of 122 (Value.int .i64 9); refine (H9h.out _).mono ?_; rintro e w' ⟨rfl, rfl⟩) | (go_at_call 127; refine HN1.mono ?_; rintro e w6 ⟨rfl, hr6, hg6⟩; have HR6 : Hid (RdS w6 rb g t1) := hr6; have HG6 : Hid (w.grownBy w6 (some rb)) := grown_trans HG5.out hg6; have HZ6 : Hid (w6.heap[w.heap.size]? = some (rcO rz0 (.slice none 0 0) (.slice none 0 0))) := (hg6.block _ (by omega) (by simp; omega)).trans HZ5.out; have HX6 : Hid (w6.heap[bx]? = some (rcO (⟨kd, n0, n1, n2, n3, n4, n5, n6, n7, [], []⟩ : Rc) (.slice none 0 0) (.slice none 0 0))) := (hg6.block _ (by omega) (by simp; omega)).trans HX5.out; have hs6 := hg6.size; clear hr6 hg6) | (go_at_call 126; refine (take_ok rb g t1 m _ HR6.out hmt).mono ?_; rintro e w7 ⟨⟨off7, c7, rfl, hkc7, hcl7⟩, hr7, hg7⟩; have HC7 : Hid (∀ i, i < m → w7.cell? ⟨g, off7 + i, none⟩ = some (.int .u8 ((t1.take m).getD i 0))) := (fun i hi => (hcl7 i hi).trans (by rw [List.getD_eq_getElem?_getD, List.getD_eq_getElem?_getD, List.getElem?_take, if_pos hi])); have HR7 : Hid (RdS w7 rb g (t1.drop m)) := hr7; have HG7 : Hid (w.grownBy w7 (some rb)) := grown_trans HG6.out hg7; have HZ7 : Hid (w7.heap[w.heap.size]? = some (rcO rz0 (.slice none 0 0) (.slice none 0 0))) := (hg7.block _ (by omega) (by simp; omega)).trans HZ6.out; have HX7 : Hid (w7.heap[bx]? = some (rcO (⟨kd, n0, n1, n2, n3, n4, n5, n6, n7, [], []⟩ : Rc) (.slice none 0 0) (.slice none 0 0))) := (hg7.block _ (by omega) (by simp; omega)).trans HX6.out; have hs7 := hg7.size; clear hr7 hg7 hcl7) | (go_at_call 130; refine (clone_any g off7 m c7 (t1.take m) _ htl (by omega) HC7.out).mono ?_; rintro e w8 ⟨dv, rfl, ho8, hb8'⟩; obtain ⟨da8, dc8, rfl⟩ := own_sl ho8; have HD8 : Hid (w8.ownsRow w7.heap.size 5 1 (.slice da8 m dc8) m ((t1.take m).map (Value.int .u8))) := ho8; have HR8 : Hid (RdS w8 rb g (t1.drop m)) := HR7.out.below hb8'; have HG8 : Hid (w.grownBy w8 (some rb)) := grow_below HG7.out hb8' (by omega); have HZ8 : Hid (w8.heap[w.heap.size]? = some (rcO rz0 (.slice none 0 0) (.slice none 0 0))) := (hb8'.block _ (by omega)).trans HZ7.out; have HX8 : Hid (w8.heap[bx]? = some (rcO (⟨kd, n0, n1, n2, n3, n4, n5, n6, n7, [], []⟩ : Rc) (.slice none 0 0) (.slice none 0 0))) := (hb8'.block _ (by omega)).trans HX7.out; have hs8 := hb8'.size; obtain ⟨z0, z1, z2, z3, z4, z5, z6, z7, z8, z9, z10⟩ := rc_cells HX8.out; have fx := rc_frozen HX8.out; clear ho8 hb8'))
                have hgx := grown_set w8 bx 10 (.slice da8 m dc8)
                have HX9 : Hid ((w8.setCell ⟨bx, 10, none⟩ (.slice da8 m dc8)).heap[bx]? = some (rcO (⟨kd, n0, n1, n2, n3, n4, n5, n6, n7, [], []⟩ : Rc) (.slice none 0 0) (.slice da8 m dc8))) := by unfold Hid; simp [World.setCell, Array.getElem?_modify, HX8.out]
                have HZ9 : Hid ((w8.setCell ⟨bx, 10, none⟩ (.slice da8 m dc8)).heap[w.heap.size]? = some (rcO rz0 (.slice none 0 0) (.slice none 0 0))) := (hgx.block _ (by omega) (by simp; omega)).trans HZ8.out
                have HR9 : Hid (RdS (w8.setCell ⟨bx, 10, none⟩ (.slice da8 m dc8)) rb g (t1.drop m)) := HR8.out.keep hgx (by simp; omega) (by simp; omega)
                have HG9 : Hid (w.grownBy (w8.setCell ⟨bx, 10, none⟩ (.slice da8 m dc8)) (some rb)) := grow_new HG8.out (by omega) _
                have HD9 : Hid ((w8.setCell ⟨bx, 10, none⟩ (.slice da8 m dc8)).ownsRow w7.heap.size 5 1 (.slice da8 m dc8) m ((t1.take m).map (Value.int .u8))) := own_keep6 HD8.out hgx (by intro j hj; have := (HD8.out.lt j hj).1; simp; omega)
                have HS9 : Hid (C.SOwn (w8.setCell ⟨bx, 10, none⟩ (.slice da8 m dc8)) w7.heap.size (.slice none 0 0) []) := C.SOwn.nil _ _
                clear z0 z1 z2 z3 z4 z5 z6 z7 z8 z9 z10 fx hgx
                generalize w8.setCell ⟨bx, 10, none⟩ (.slice da8 m dc8) = w9 at *
                obtain ⟨x0, x1, x2, x3, x4, x5, x6, x7, x8, x9, x10⟩ := rc_cells HX9.out
                obtain ⟨y0, y1, y2, y3, y4, y5, y6, y7, y8, y9, y10⟩ := rc_cells HZ9.out
                have fz := rc_frozen HZ9.out
                go_wp2_with (first | (go_at_call_of 122 (Value.int .i64 8); refine (H8h.out _).mono ?_; rintro e w' ⟨rfl, rfl⟩) | (go_at_call_of 122 (Value.int .i64 9); refine (H9h.out _).mono ?_; rintro e w' ⟨rfl, rfl⟩))
                change bodyPost _ _ _ _ _ (rS w9 w.heap.size (⟨kd, n0, n1, n2, n3, n4, n5, n6, n7, [], []⟩ : Rc) (.slice none 0 0) (.slice da8 m dc8))
                have hlv := fun j => cell_of_row _ w.heap.size j _ _ _ (rS_heap w9 w.heap.size (⟨kd, n0, n1, n2, n3, n4, n5, n6, n7, [], []⟩ : Rc) rz0 (.slice none 0 0) (.slice da8 m dc8) _ _ HZ9.out)
                have hrg := rS_grown w9 w.heap.size (⟨kd, n0, n1, n2, n3, n4, n5, n6, n7, [], []⟩ : Rc) (.slice none 0 0) (.slice da8 m dc8)
                generalize rS w9 w.heap.size (⟨kd, n0, n1, n2, n3, n4, n5, n6, n7, [], []⟩ : Rc) (.slice none 0 0) (.slice da8 m dc8) = WF at *
                clear x0 x1 x2 x3 x4 x5 x6 x7 x8 x9 x10 y0 y1 y2 y3 y4 y5 y6 y7 y8 y9 y10 fz
                refine bodyPost_ret (v := .agg (rcC (⟨kd, n0, n1, n2, n3, n4, n5, n6, n7, [], []⟩ : Rc) (.slice none 0 0) (.slice da8 m dc8))) (by simp [results, Tryz.results116, go_sem, rcC, hlv]) rfl ?_
                show RecPost Q w rb g _ _
                rw [HQ.out]
                exact ⟨⟨(.slice none 0 0), (.slice da8 m dc8), rfl, own_base6 (own_keep6 HS9.out hrg (by intro j hj; have := (HS9.out.lt j hj).1; simp; omega)) (by omega), own_base6 (own_keep6 (grow_to HD9.out htl.symm) hrg (by intro j hj; have := ((grow_to HD9.out htl.symm).lt j hj).1; simp; omega)) (by omega), (fun j hj => by simp [Value.ownBlock] at hj), HR9.out.keep hrg (by simp; omega) (by simp; omega)⟩, grow_other HG9.out hrg (Nat.le_refl _)⟩
              · have HQN : Hid (Q = none) := by unfold Hid; rw [HQ0.out, hb8, hb9, hn1]; simp only [Bool.false_eq_true, if_false, if_true]; rw [if_neg (by omega)]
                clear HQ0 hb8 hb9 hn1
                go_wp2_with (first | (go_at_call_of 122 (Value.int .i64 8); refine (H8h.out _).mono ?_; rintro e w' ⟨rfl, rfl⟩) | (go_at_call_of 122 (Value.int .i64 9); refine (H9h.out _).mono ?_; rintro e w' ⟨rfl, rfl⟩) | (go_at_call 127; refine HN1.mono ?_; rintro e w6 ⟨rfl, hr6, hg6⟩) | (go_at_call 126; refine (take_no rb g t1 m _ hr6 (by omega)).mono ?_; rintro e w7 ⟨rfl, rfl⟩))
                refine ⟨rfl, ?_⟩
                show RecPost Q w rb g _ _
                rw [HQN.out]
                exact ⟨rfl, grown_trans HG5.out hg6⟩
        | true =>
          have H8h : Hid (∀ W, Calls Tryz.prog 122 #[.int .u16 f, .int .i64 8] W fun e w' => e = .returned (.bool true) ∧ W = w') := fun W => hb8 ▸ rhas_any f 8 W (by omega)
          have hb9 := HNB.out hb8
          have H9h : Hid (∀ W, Calls Tryz.prog 122 #[.int .u16 f, .int .i64 9] W fun e w' => e = .returned (.bool false) ∧ W = w') := fun W => hb9 ▸ rhas_any f 9 W (by omega)
          have HSP := spans_any rb g t w5 HR5.out HBt.out ht0 (by omega)
          cases hs1 : spsP t with
          | none =>
            have HQN : Hid (Q = none) := by unfold Hid; rw [HQ0.out, hb8, hs1]; rfl
            rw [hs1] at HSP
            clear HQ0 hb8 hb9 hs1
            go_wp2_with (first | (go_at_call_of 122 (Value.int .i64 8); refine (H8h.out _).mono ?_; rintro e w' ⟨rfl, rfl⟩) | (go_at_call_of 122 (Value.int .i64 9); refine (H9h.out _).mono ?_; rintro e w' ⟨rfl, rfl⟩) | (go_at_call 129; refine HSP.mono ?_; rintro e w6 ⟨hee, hg6⟩; simp only at hee; subst hee))
            refine ⟨rfl, ?_⟩
            show RecPost Q w rb g _ _
            rw [HQN.out]
            exact ⟨rfl, grown_trans HG5.out hg6⟩
          | some p1 =>
            obtain ⟨sl, t1⟩ := p1
            have HQ : Hid (Q = some (⟨kd, n0, n1, n2, n3, n4, n5, n6, n7, sl, []⟩, t1)) := by unfold Hid; rw [HQ0.out, hb8, hs1]; rfl
            rw [hs1] at HSP
            clear HQ0 hb8 hb9 hs1
            go_upto_region 13 with (first | (go_at_call_of 122 (Value.int .i64 8); refine (H8h.out _).mono ?_; rintro e w' ⟨rfl, rfl⟩) | (go_at_call_of 122 (Value.int .i64 9); refine (H9h.out _).mono ?_; rintro e w' ⟨rfl, rfl⟩) | (go_at_call 129; refine HSP.mono ?_; rintro e w6 ⟨⟨sv, rfl, hso6, hr6⟩, hg6⟩; obtain ⟨sa8, sc8, rfl⟩ := own_sl hso6; have HS6 : Hid (C.SOwn w6 w5.heap.size (.slice sa8 sl.length sc8) sl) := hso6; have HR6 : Hid (RdS w6 rb g t1) := hr6; have HG6 : Hid (w.grownBy w6 (some rb)) := grown_trans HG5.out hg6; have HZ6 : Hid (w6.heap[w.heap.size]? = some (rcO rz0 (.slice none 0 0) (.slice none 0 0))) := (hg6.block _ (by omega) (by simp; omega)).trans HZ5.out; have HX6 : Hid (w6.heap[bx]? = some (rcO (⟨kd, n0, n1, n2, n3, n4, n5, n6, n7, [], []⟩ : Rc) (.slice none 0 0) (.slice none 0 0))) := (hg6.block _ (by omega) (by simp; omega)).trans HX5.out; have hs6 := hg6.size; obtain ⟨z0, z1, z2, z3, z4, z5, z6, z7, z8, z9, z10⟩ := rc_cells HX6.out; have fx := rc_frozen HX6.out; clear hr6 hg6 hso6))
            have hgx := grown_set w6 bx 9 (.slice sa8 sl.length sc8)
            have HX9 : Hid ((w6.setCell ⟨bx, 9, none⟩ (.slice sa8 sl.length sc8)).heap[bx]? = some (rcO (⟨kd, n0, n1, n2, n3, n4, n5, n6, n7, [], []⟩ : Rc) (.slice sa8 sl.length sc8) (.slice none 0 0))) := by unfold Hid; simp [World.setCell, Array.getElem?_modify, HX6.out]
            have HZ9 : Hid ((w6.setCell ⟨bx, 9, none⟩ (.slice sa8 sl.length sc8)).heap[w.heap.size]? = some (rcO rz0 (.slice none 0 0) (.slice none 0 0))) := (hgx.block _ (by omega) (by simp; omega)).trans HZ6.out
            have HR9 : Hid (RdS (w6.setCell ⟨bx, 9, none⟩ (.slice sa8 sl.length sc8)) rb g t1) := HR6.out.keep hgx (by simp; omega) (by simp; omega)
            have HG9 : Hid (w.grownBy (w6.setCell ⟨bx, 9, none⟩ (.slice sa8 sl.length sc8)) (some rb)) := grow_new HG6.out (by omega) _
            have HS9 : Hid (C.SOwn (w6.setCell ⟨bx, 9, none⟩ (.slice sa8 sl.length sc8)) w5.heap.size (.slice sa8 sl.length sc8) sl) := own_keep6 HS6.out hgx (by intro j hj; have := (HS6.out.lt j hj).1; simp; omega)
            have HD9 : Hid ((w6.setCell ⟨bx, 9, none⟩ (.slice sa8 sl.length sc8)).ownsRow w5.heap.size 5 1 (.slice none 0 0) 0 []) := World.ownsRow_nil _ _ _ _
            clear z0 z1 z2 z3 z4 z5 z6 z7 z8 z9 z10 fx hgx
            generalize w6.setCell ⟨bx, 9, none⟩ (.slice sa8 sl.length sc8) = w9 at *
            obtain ⟨x0, x1, x2, x3, x4, x5, x6, x7, x8, x9, x10⟩ := rc_cells HX9.out
            obtain ⟨y0, y1, y2, y3, y4, y5, y6, y7, y8, y9, y10⟩ := rc_cells HZ9.out
            have fz := rc_frozen HZ9.out
            go_wp2_with (first | (go_at_call_of 122 (Value.int .i64 8); refine (H8h.out _).mono ?_; rintro e w' ⟨rfl, rfl⟩) | (go_at_call_of 122 (Value.int .i64 9); refine (H9h.out _).mono ?_; rintro e w' ⟨rfl, rfl⟩))
            change bodyPost _ _ _ _ _ (rS w9 w.heap.size (⟨kd, n0, n1, n2, n3, n4, n5, n6, n7, [], []⟩ : Rc) (.slice sa8 sl.length sc8) (.slice none 0 0))
            have hlv := fun j => cell_of_row _ w.heap.size j _ _ _ (rS_heap w9 w.heap.size (⟨kd, n0, n1, n2, n3, n4, n5, n6, n7, [], []⟩ : Rc) rz0 (.slice sa8 sl.length sc8) (.slice none 0 0) _ _ HZ9.out)
            have hrg := rS_grown w9 w.heap.size (⟨kd, n0, n1, n2, n3, n4, n5, n6, n7, [], []⟩ : Rc) (.slice sa8 sl.length sc8) (.slice none 0 0)
            generalize rS w9 w.heap.size (⟨kd, n0, n1, n2, n3, n4, n5, n6, n7, [], []⟩ : Rc) (.slice sa8 sl.length sc8) (.slice none 0 0) = WF at *
            clear x0 x1 x2 x3 x4 x5 x6 x7 x8 x9 x10 y0 y1 y2 y3 y4 y5 y6 y7 y8 y9 y10 fz
            refine bodyPost_ret (v := .agg (rcC (⟨kd, n0, n1, n2, n3, n4, n5, n6, n7, [], []⟩ : Rc) (.slice sa8 sl.length sc8) (.slice none 0 0))) (by simp [results, Tryz.results116, go_sem, rcC, hlv]) rfl ?_
            show RecPost Q w rb g _ _
            rw [HQ.out]
            exact ⟨⟨(.slice sa8 sl.length sc8), (.slice none 0 0), rfl, own_base6 (own_keep6 HS9.out hrg (by intro j hj; have := (HS9.out.lt j hj).1; simp; omega)) (by omega), own_base6 (own_keep6 HD9.out hrg (by intro j hj; have := (HD9.out.lt j hj).1; simp; omega)) (by omega), (fun j hj hj2 => by simp [Value.ownBlock] at hj2), HR9.out.keep hrg (by simp; omega) (by simp; omega)⟩, grow_other HG9.out hrg (Nat.le_refl _)⟩
end Go.Proofs.YtllhbhogfffedaaGreatDoor
