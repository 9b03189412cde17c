import Derived.Test.YtcfodcioeefbeaaDoorXpG
namespace Go.Proofs.YtcfodcioeefbeaaDoor.X
open Go.RowKit Go.Maps
set_option linter.unusedVariables false
set_option linter.unusedSimpArgs false

set_option maxRecDepth 8000 in
set_option maxHeartbeats 4000000 in
theorem eor1_any {w : World} (x : Pc) (bx : Nat) (red : Int) (h : w.cell? ⟨bx, 0, none⟩ = some (.int .i64 red)) :
    Calls Tryd.prog 22 #[.agg (pcC x), .pointer (some ⟨bx, 0, none⟩)] w fun e w' => e = .returned (.bool (decide (x.to = red))) ∧ Below w.heap.size w w' := by
  obtain ⟨V1, hV1⟩ : ∃ V, w.alloc (.cells (pcC x) 56) = V := ⟨_, rfl⟩
  have hB1 : Below w.heap.size w V1 := by rw [← hV1]; exact (Below.refl _ _).alloc (Nat.le_refl _) _
  obtain ⟨b, hb⟩ : ∃ b, w.heap.size = b := ⟨_, rfl⟩
  have g1 : V1.heap[b]? = some (.cells (pcC x) 56) := by rw [← hV1, ← hb]; exact heap_alloc_new' w _
  have HB : Hid (Below w.heap.size w V1) := hB1
  have HV : Hid (w.alloc (.cells (pcC x) 56) = V1) := hV1
  have r0 : V1.cell? ⟨bx, 0, none⟩ = some (.int .i64 red) := (hB1.cell (p := ⟨bx, 0, none⟩) (World.block_lt_of_cell? w ⟨bx, 0, none⟩ h)).trans h
  obtain ⟨p0, p1, p2, p3, p4, _⟩ := box5 g1
  clear h hB1 g1 hV1
  go_enter Tryd.func22, Tryd.ntmps22
  go_upto_region 1 with fail
  try rw [hb]
  rw [HV.out]
  clear hb
  go_wp2
  go_ret
  exact ⟨rfl, HB.out⟩
set_option maxRecDepth 8000 in
set_option maxHeartbeats 4000000 in
theorem idx_any {w : World} {lo : Nat} {pa : Option Addr} {pn pc : Nat} (P : List Pc) (hP : POwn w lo (.slice pa pn pc) P) (hPn : P.length = pn) (hPb : pn ≤ 262144) (bx : Nat) (red : Int) (h : w.cell? ⟨bx, 0, none⟩ = some (.int .i64 red)) (hex : ∃ p ∈ P, p.to = red) :
    Calls Tryd.prog 21 #[.slice pa pn pc, .func (.func 22) #[] #[.pointer (some ⟨bx, 0, none⟩)]] w fun e w' => (∃ (i : Nat) (p : Pc), e = .returned (.int .i64 i) ∧ P[i]? = some p ∧ p.to = red) ∧ Below w.heap.size w w' := by
  have hpo : w.ownsRow lo 56 5 (.slice pa pn pc) pn (P.flatMap pcL) := by
    have q := hP
    unfold POwn at q
    rw [hPn] at q
    exact q
  have hp0 : 0 < pn := by
    obtain ⟨p, hp, _⟩ := hex
    rw [← hPn]
    exact List.length_pos_of_mem hp
  obtain ⟨pg, cp, epa, _, _⟩ := World.ownsRow.form hpo hp0
  simp only [Value.slice.injEq] at epa
  obtain ⟨rfl, -, rfl⟩ := epa
  have HH : Hid (w.ownsRow lo 56 5 (.slice (some ⟨pg, 0, none⟩) pn pc) pn (P.flatMap pcL) ∧ P.length = pn ∧ (∃ p ∈ P, p.to = red) ∧ w.cell? ⟨bx, 0, none⟩ = some (.int .i64 red)) := ⟨hpo, hPn, hex, h⟩
  clear hP hPn h hex hpo
  go_enter Tryd.func21, Tryd.ntmps21
  go_upto_region 2 with fail
  go_loopw [8] (fun iv wr => ∃ i : Nat, iv = .int .i64 i ∧ Hid (i ≤ pn ∧ (∀ j p, j < i → P[j]? = some p → p.to ≠ red) ∧ Below w.heap.size w wr)) (fun iv _ => pn - (intOf iv).toNat)
  case atStart => exact ⟨0, rfl, Nat.zero_le _, fun j p hj => by omega, Below.refl _ _⟩
  case round =>
    obtain ⟨i, rfl, hh⟩ := hrel
    have HK : Hid (i ≤ pn ∧ (∀ j p, j < i → P[j]? = some p → p.to ≠ red) ∧ Below w.heap.size w wr) := hh.out
    clear hh
    have hlt : i < pn := by
      rcases Nat.lt_or_ge i pn with q | q
      · exact q
      · exfalso
        obtain ⟨p, hp, e⟩ := HH.out.2.2.1
        obtain ⟨j, hj⟩ := List.getElem?_of_mem hp
        have := (List.getElem?_eq_some_iff.mp hj).1
        exact HK.out.2.1 j p (by have := HH.out.2.1; omega) hj e
    have hlt' : (i : Int) < (pn : Int) := by omega
    have h0i : 0 ≤ (i : Int) := by omega
    obtain ⟨p, hp⟩ : ∃ p, P[i]? = some p := ⟨P[i]'(by rw [HH.out.2.1]; exact hlt), List.getElem?_eq_getElem _⟩
    have hpw := own_at HH.out.1 (fun y hy => HK.out.2.2.block y (World.ownsRow.lt HH.out.1 y hy).2)
    have hc : ∀ j, j < 5 → wr.cell? ⟨pg, i * 5 + j, none⟩ = (pcL p)[j]? := fun j hj => row_cell (f := pcL) (z := 5) (fun _ => rfl) hpw HH.out.2.1 hp hj
    have p0 : wr.cell? ⟨pg, i * 5, none⟩ = some (.int .i64 p.typ) := hc 0 (by omega)
    have p1 : wr.cell? ⟨pg, i * 5 + 1, none⟩ = some (.int .i64 p.frm) := hc 1 (by omega)
    have p2 : wr.cell? ⟨pg, i * 5 + 2, none⟩ = some (.int .i64 p.to) := hc 2 (by omega)
    have p3 : wr.cell? ⟨pg, i * 5 + 3, none⟩ = some (.int .i64 p.chk) := hc 3 (by omega)
    have p4 : wr.cell? ⟨pg, i * 5 + 4, none⟩ = some (.int .i64 p.rep) := hc 4 (by omega)
    have hE := eor1_any p bx red ((HK.out.2.2.cell (p := ⟨bx, 0, none⟩) (World.block_lt_of_cell? w ⟨bx, 0, none⟩ HH.out.2.2.2)).trans HH.out.2.2.2)
    obtain ⟨B, hB⟩ : ∃ B, decide (p.to = red) = B := ⟨_, rfl⟩
    have HB : Hid (decide (p.to = red) = B ∧ P[i]? = some p) := ⟨hB, hp⟩
    rw [hB] at hE
    clear hB hp hpw hc
    cases B
    · go_wp2_with (go_at_call 22; refine hE.mono ?_; rintro e w2 ⟨rfl, hb2⟩; have HB2 : Hid (Below wr.heap.size wr w2) := hb2; clear hb2)
      go_roundw
      case rel => exact ⟨i + 1, by go_num, by omega, fun j q hj hq => by
        rcases Nat.lt_or_ge j i with q1 | q1
        · exact HK.out.2.1 j q q1 hq
        · obtain rfl : j = i := by omega
          rw [HB.out.2] at hq
          cases hq
          exact of_decide_eq_false HB.out.1, HK.out.2.2.trans (HB2.out.mono HK.out.2.2.size)⟩
      case measure => simp [intOf]; omega
    · go_wp2_with (go_at_call 22; refine hE.mono ?_; rintro e w2 ⟨rfl, hb2⟩; have HB2 : Hid (Below wr.heap.size wr w2) := hb2; clear hb2)
      go_ret
      exact ⟨⟨i, p, rfl, HB.out.2, of_decide_eq_true HB.out.1⟩, HK.out.2.2.trans (HB2.out.mono HK.out.2.2.size)⟩
/-- The last red piece with another number. -/
def EoP (P : List Pc) (red chk : Int) (w : World) (e : Ending) (w' : World) : Prop := (∃ p ∈ P, p.to = red ∧ e = .returned (.agg #[.int .i64 p.typ, .int .i64 p.frm, .int .i64 p.to, .int .i64 chk, .int .i64 p.rep])) ∧ Below w.heap.size w w'
abbrev pcZ : Obj := .cells #[.int .i64 0, .int .i64 0, .int .i64 0, .int .i64 0, .int .i64 0] 56
set_option maxRecDepth 8000 in
set_option maxHeartbeats 4000000 in
theorem eor_any {w : World} {lo : Nat} {pa : Option Addr} {pn pc : Nat} (P : List Pc) (hP : POwn w lo (.slice pa pn pc) P) (hPn : P.length = pn) (hPb : pn ≤ 262144) (red chk : Int) (hex : ∃ p ∈ P, p.to = red) :
    Calls Tryd.prog 14 #[.slice pa pn pc, .int .i64 red, .int .i64 chk] w (EoP P red chk w) := by
  obtain ⟨b, hb⟩ : ∃ b, w.heap.size = b := ⟨_, rfl⟩
  obtain ⟨V1, hV1⟩ : ∃ V, w.alloc (.cells #[.int .i64 red] 3) = V := ⟨_, rfl⟩
  obtain ⟨V2, hV2⟩ : ∃ V, V1.alloc pcZ = V := ⟨_, rfl⟩
  have z1 : V1.heap.size = b + 1 := by rw [← hV1, ← hb]; simp
  have B1 : Below w.heap.size w V1 := by rw [← hV1]; exact (Below.refl _ _).alloc (Nat.le_refl _) _
  have B2 : Below V1.heap.size V1 V2 := by rw [← hV2]; exact (Below.refl _ _).alloc (Nat.le_refl _) _
  have g1 : V1.heap[b]? = some (.cells #[.int .i64 red] 3) := by rw [← hV1, ← hb]; exact heap_alloc_new' w _
  have g2 : V2.heap[b + 1]? = some pcZ := by rw [← hV2, ← z1]; exact heap_alloc_new' V1 _
  have hBw : Below w.heap.size w V2 := B1.trans (B2.mono B1.size)
  have hpo : w.ownsRow lo 56 5 (.slice pa pn pc) pn (P.flatMap pcL) := by
    have q := hP
    unfold POwn at q
    rw [hPn] at q
    exact q
  have hp0 : 0 < pn := by
    obtain ⟨p, hp, _⟩ := hex
    rw [← hPn]
    exact List.length_pos_of_mem hp
  obtain ⟨pg, cp, epa, _, _⟩ := World.ownsRow.form hpo hp0
  simp only [Value.slice.injEq] at epa
  obtain ⟨rfl, -, rfl⟩ := epa
  have hIx := idx_any (w := V2) P (by unfold POwn; rw [hPn]; exact own_at hpo (fun y hy => hBw.block y (World.ownsRow.lt hpo y hy).2)) hPn hPb b red ((cell_of_row _ _ _ _ _ _ ((B2.block b (by omega)).trans g1)).trans rfl) hex
  have HW : Hid (w.alloc (.cells #[.int .i64 red] 3) = V1 ∧ V1.alloc pcZ = V2 ∧ V1.heap.size = b + 1) := ⟨hV1, hV2, z1⟩
  have HB : Hid (Below w.heap.size w V2 ∧ V2.heap[b + 1]? = some pcZ ∧ w.ownsRow lo 56 5 (.slice (some ⟨pg, 0, none⟩) pn pc) pn (P.flatMap pcL) ∧ P.length = pn ∧ w.heap.size = b) := ⟨hBw, g2, hpo, hPn, hb⟩
  clear hP hPn hex hV1 hV2 z1 B1 B2 g1 g2 hBw hpo hp0
  go_enter Tryd.func14, Tryd.ntmps14
  go_upto_region 1 with fail
  try rw [hb]
  rw [HW.out.1, HW.out.2.1]
  try rw [HW.out.2.2]
  clear hb
  go_upto_region 2 with (go_at_call 21; refine hIx.mono ?_; rintro e w2 ⟨⟨i, p, rfl, hp, hto⟩, hb2⟩; have H2 : Hid (P[i]? = some p ∧ p.to = red ∧ Below V2.heap.size V2 w2) := ⟨hp, hto, hb2⟩; clear hp hto hb2 hIx)
  have hlt : i < pn := by have := (List.getElem?_eq_some_iff.mp H2.out.1).1; have := HB.out.2.2.2.1; omega
  have hlt' : (i : Int) < (pn : Int) := by omega
  have h0i : 0 ≤ (i : Int) := by omega
  have hbw2 := HB.out.1.trans (H2.out.2.2.mono HB.out.1.size)
  have hpw := own_at HB.out.2.2.1 (fun y hy => hbw2.block y (World.ownsRow.lt HB.out.2.2.1 y hy).2)
  have hc : ∀ j, j < 5 → w2.cell? ⟨pg, i * 5 + j, none⟩ = (pcL p)[j]? := fun j hj => row_cell (f := pcL) (z := 5) (fun _ => rfl) hpw HB.out.2.2.2.1 H2.out.1 hj
  have p0 : w2.cell? ⟨pg, i * 5, none⟩ = some (.int .i64 p.typ) := hc 0 (by omega)
  have p1 : w2.cell? ⟨pg, i * 5 + 1, none⟩ = some (.int .i64 p.frm) := hc 1 (by omega)
  have p2 : w2.cell? ⟨pg, i * 5 + 2, none⟩ = some (.int .i64 p.to) := hc 2 (by omega)
  have p3 : w2.cell? ⟨pg, i * 5 + 3, none⟩ = some (.int .i64 p.chk) := hc 3 (by omega)
  have p4 : w2.cell? ⟨pg, i * 5 + 4, none⟩ = some (.int .i64 p.rep) := hc 4 (by omega)
  obtain ⟨V3, hV3⟩ : ∃ V, w2.alloc (.cells #[.int .i64 p.typ, .int .i64 p.frm, .int .i64 p.to, .int .i64 p.chk, .int .i64 p.rep] 56) = V := ⟨_, rfl⟩
  obtain ⟨b3, hb3⟩ : ∃ b, w2.heap.size = b := ⟨_, rfl⟩
  have B3 : Below w2.heap.size w2 V3 := by rw [← hV3]; exact (Below.refl _ _).alloc (Nat.le_refl _) _
  have g3 : V3.heap[b3]? = some (.cells #[.int .i64 p.typ, .int .i64 p.frm, .int .i64 p.to, .int .i64 p.chk, .int .i64 p.rep] 56) := by rw [← hV3, ← hb3]; exact heap_alloc_new' w2 _
  have hlb := (Array.getElem?_eq_some_iff.1 HB.out.2.1).1
  have H3 : Hid (Below w.heap.size w V3 ∧ V3.heap[b + 1]? = some pcZ ∧ V3.heap[b3]? = some (.cells #[.int .i64 p.typ, .int .i64 p.frm, .int .i64 p.to, .int .i64 p.chk, .int .i64 p.rep] 56) ∧ b + 1 < b3) := ⟨hbw2.trans (B3.mono hbw2.size), (B3.block _ (Nat.lt_of_lt_of_le hlb H2.out.2.2.size)).trans ((H2.out.2.2.block _ hlb).trans HB.out.2.1), g3, by rw [← hb3]; exact Nat.lt_of_lt_of_le hlb H2.out.2.2.size⟩
  clear hbw2 hpw hc B3 g3 hlb hlt
  go_upto_region 3 with fail
  try rw [hV3]
  try rw [hb3]
  clear hV3 hb3 p0 p1 p2 p3 p4
  obtain ⟨p0, p1, p2, p3, p4, _⟩ := box5 H3.out.2.2.1
  have f3 := xp_frozen H3.out.2.2.1 3
  obtain ⟨V4, hV4⟩ : ∃ V, V3.setCell ⟨b3, 3, none⟩ (.int .i64 chk) = V := ⟨_, rfl⟩
  have q4 : Kl (fun g => g = b3) V3 V4 := by rw [← hV4]; exact (Kl.refl _ _).grown (grown_set' _ _ _ _) (fun k q => .inl (Option.some.inj q).symm)
  have g4 : V4.heap[b3]? = some (.cells #[.int .i64 p.typ, .int .i64 p.frm, .int .i64 p.to, .int .i64 chk, .int .i64 p.rep] 56) := by rw [← hV4]; exact (heap_setCell_same _ _ _ _ _ _ H3.out.2.2.1).trans rfl
  have hzb := H3.out.2.2.2
  have hwb := HB.out.2.2.2.2
  have H4 : Hid (Below w.heap.size w V4 ∧ V4.heap[b + 1]? = some pcZ ∧ V4.heap[b3]? = some (.cells #[.int .i64 p.typ, .int .i64 p.frm, .int .i64 p.to, .int .i64 chk, .int .i64 p.rep] 56)) := ⟨⟨q4.os.trans H3.out.1.os, q4.tape.trans H3.out.1.tape, q4.output.trans H3.out.1.output, Nat.le_trans H3.out.1.size q4.size, fun g hg => (q4.block g (Nat.lt_of_lt_of_le hg H3.out.1.size) (by omega)).trans (H3.out.1.block g hg)⟩, (q4.block _ (Array.getElem?_eq_some_iff.1 H3.out.2.1).1 (by omega)).trans H3.out.2.1, g4⟩
  clear q4 g4 hzb hwb H3
  go_upto_region 4 with fail
  try rw [hV4]
  clear hV4 f3 p0 p1 p2 p3 p4
  obtain ⟨p0, p1, p2, p3, p4, _⟩ := box5 H4.out.2.2
  have HZ : Hid ((V4.setRow (b + 1) #[.int .i64 p.typ, .int .i64 p.frm, .int .i64 p.to, .int .i64 chk, .int .i64 p.rep]).heap[b + 1]? = some (.cells #[.int .i64 p.typ, .int .i64 p.frm, .int .i64 p.to, .int .i64 chk, .int .i64 p.rep] 56)) := setRow_heap _ _ _ _ _ _ H4.out.2.1
  have hsz : (Tryd.prog.info? 56).map (·.size) = some 5 := by kernel_rfl
  go_wp2_with (refine wpList_store_row rfl 56 _ _ rfl (b + 1) _ rfl rfl 56 _ H4.out.2.1 hsz rfl (by simp [Value.oneCell']) ?_)
  have hlv := fun j => cell_of_row _ (b + 1) j _ _ _ HZ.out
  refine bodyPost_ret (v := .agg #[.int .i64 p.typ, .int .i64 p.frm, .int .i64 p.to, .int .i64 chk, .int .i64 p.rep]) (by simp [results, Tryd.results14, go_sem, hlv]) rfl ?_
  exact ⟨⟨p, List.mem_of_getElem? H2.out.1, H2.out.2.1, rfl⟩, below_setRow H4.out.1 (by have := HB.out.2.2.2.2; omega) _⟩
end Go.Proofs.YtcfodcioeefbeaaDoor.X
