import Derived.Test.YtllhbhogfffedaaGreatDoorJkW
import Derived.Deep.DeepCutAuto
namespace Go.Proofs.YtllhbhogfffedaaGreatDoor.K
open Go.RowKit
set_option linter.unusedVariables false
set_option linter.unusedSimpArgs false

abbrev rwO (aB aL : Option Addr) (nB cB nL cL : Nat) (act keep : Int) (done : Bool) : Array Value := #[.slice aB nB cB, .slice aL nL cL, .int .i64 act, .int .i64 keep, .bool done]
/-- The law's row, in its block. -/
structure Rw (w : World) (b : Nat) (aB aL : Option Addr) (nB cB nL cL : Nat) (act keep : Int) (done : Bool) : Prop where
  c0 : w.cell? ⟨b, 0, none⟩ = some (.slice aB nB cB)
  c1 : w.cell? ⟨b, 1, none⟩ = some (.slice aL nL cL)
  c2 : w.cell? ⟨b, 2, none⟩ = some (.int .i64 act)
  c3 : w.cell? ⟨b, 3, none⟩ = some (.int .i64 keep)
  c4 : w.cell? ⟨b, 4, none⟩ = some (.bool done)
theorem Rw.below {w V : World} {b : Nat} {aB aL : Option Addr} {nB cB nL cL : Nat} {act keep : Int} {done : Bool} (h : Rw w b aB aL nB cB nL cL act keep done) (hb : Below w.heap.size w V) : Rw V b aB aL nB cB nL cL act keep done :=
  ⟨bel_cell hb h.c0, bel_cell hb h.c1, bel_cell hb h.c2, bel_cell hb h.c3, bel_cell hb h.c4⟩

/-- The blocks of X are as they were. -/
def KX (X : Nat → Prop) (A V : World) : Prop := ∀ k, X k → V.heap[k]? = A.heap[k]?
theorem KX.next {X : Nat → Prop} {A B C : World} (h : KX X A B) (h' : KX X B C) : KX X A C := fun k hk => (h' k hk).trans (h k hk)
theorem KX.below {X : Nat → Prop} {A B C W : World} {D : Dk} (h : KX X A B) (hj : Sj W X B D) (hb : Below B.heap.size B C) : KX X A C := fun k hk => (hb.block k (hj.xs k hk)).trans (h k hk)
theorem KX.rl {X : Nat → Prop} {A V : World} {lo : Nat} {v : Value} {os : List Ro} (h : KX X A V) (hr : Rl A lo v os) (hx : ∀ k, lo ≤ k → k < A.heap.size → X k) : Rl V lo v os := rl_keep hr (Nat.le_refl _) (fun k h1 h2 => h k (hx k h1 h2))

set_option maxHeartbeats 16000000 in
set_option maxRecDepth 100000 in
/-- JOURNAL ONCE, of any row. -/
theorem once_walk (aB aL : Option Addr) (nB cB nL cL : Nat) (Bs Ls : List Int) (act keep : Int) (done : Bool) (w : World) (aD aF aN : Addr) (hS : S0 w aD aF aN) (h5 : 5 ≤ w.heap.size)
    (hbB : Bytey Bs) (hbL : Bytey Ls) (hlB : Bs.length = nB) (hlL : Ls.length = nL) (hzB : Lies .u8 w aB Bs) (hzL : Lies .u8 w aL Ls) (hnB : aB = none → nB = 0 ∧ cB = 0) (hnL : aL = none → nL = 0 ∧ cL = 0) (hcB : nB ≤ cB) (hcM : cB ≤ 9223372036854775807) (hB0 : nB ≤ 1048576) (hL0 : nL ≤ 1048576) (hact : act ≤ 9223372036854775807) :
    Calls Tryz.prog 5 #[.agg (rwO aB aL nB cB nL cL act keep done)] w fun e w' => e = .returned (.bool true) ∧ Below w.heap.size w w' := by
  obtain ⟨w0, hw0⟩ : ∃ V, w.alloc (.cells (rwO aB aL nB cB nL cL act keep done) 67) = V := ⟨_, rfl⟩
  have hb0 : Below w.heap.size w w0 := by rw [← hw0]; exact (Below.refl _ _).alloc (Nat.le_refl _) _
  have hr0 : Rw w0 w.heap.size aB aL nB cB nL cL act keep done := by
    have := heap_new6 w (.cells (rwO aB aL nB cB nL cL act keep done) 67)
    rw [hw0] at this
    exact ⟨cell_of_row _ _ 0 _ _ _ this, cell_of_row _ _ 1 _ _ _ this, cell_of_row _ _ 2 _ _ _ this, cell_of_row _ _ 3 _ _ _ this, cell_of_row _ _ 4 _ _ _ this⟩
  have hS0 := hS.later hb0
  have HA := awake7_any w0 aN aD hS0.tb (Nat.le_trans h5 hb0.size) hS0.er.n hS0.er.d
  have HZ : Hid (Bytey Bs ∧ Bytey Ls ∧ Bs.length = nB ∧ Ls.length = nL ∧ Lies .u8 w0 aB Bs ∧ Lies .u8 w0 aL Ls ∧ (aB = none → nB = 0 ∧ cB = 0) ∧ (aL = none → nL = 0 ∧ cL = 0)) := ⟨hbB, hbL, hlB, hlL, lies_bel hb0 hzB, lies_bel hb0 hzL, hnB, hnL⟩
  have H0 : Hid (Rw w0 w.heap.size aB aL nB cB nL cL act keep done ∧ S0 w0 aD aF aN ∧ Below w.heap.size w w0) := ⟨hr0, hS0, hb0⟩
  clear hS hbB hbL hlB hlL hzB hzL hnB hnL hb0 hr0 hS0 h5
  go_enter Tryz.func5, Tryz.ntmps5
  go_wp2_with fail
  refine HA.mono ?_
  clear HA hw0
  rintro e W ⟨rfl, hbW⟩
  have hW1 := hbW.size
  have hW0 := H0.out.2.2.size
  have H1 : Hid (Rw W w.heap.size aB aL nB cB nL cL act keep done ∧ S0 W aD aF aN ∧ Below w.heap.size w W ∧ Lies .u8 W aB Bs ∧ Lies .u8 W aL Ls) := ⟨H0.out.1.below hbW, H0.out.2.1.later hbW, H0.out.2.2.trans (hbW.mono hW0), lies_bel hbW HZ.out.2.2.2.2.1, lies_bel hbW HZ.out.2.2.2.2.2.1⟩
  clear hbW H0 hW0 hW1
  have HNW := dNew_any W 4611686018427387904
  rw [show nn0 4611686018427387904 = 4611686018427387904 from rfl] at HNW
  go_wp2_with fail
  refine HNW.mono ?_
  clear HNW
  rintro e V1 ⟨rfl, hd1, hc1, hs1, hb1⟩
  have HDK := dDisk_any V1 (W.heap.size + 1) W.heap.size hc1
  rw [hs1] at HDK
  have HSJ := Sj.start hd1 hc1 hs1 hb1
  obtain ⟨V2, hV2⟩ : ∃ V, V1.alloc (.cells #[.pointer (some ⟨W.heap.size, 0, none⟩)] 102) = V := ⟨_, rfl⟩
  rw [hV2] at HDK HSJ
  clear hd1 hc1 hs1 hb1 hV2
  go_wp2_with fail
  refine HDK.mono ?_
  clear HDK
  rintro e V2' ⟨rfl, rfl⟩
  have HJ2 : Hid (Sj W (fun k => k = W.heap.size + 1 ∨ k = W.heap.size + 2) V2' (dk0 4611686018427387904)) := HSJ
  clear HSJ
  -- a := disk.Number(d.Append("journal", x.B))
  obtain ⟨c0, c1, c2, c3, c4⟩ := H1.out.1.below HJ2.out.bel
  have HAP := HJ2.out.app H1.out.2.1 (ok_dk0 (M := 4611686018427387904) ⟨by omega, by omega⟩) (by omega) jN aB nB cB Bs HZ.out.2.2.1 H1.out.2.2.2.1 HZ.out.2.2.2.2.2.2.1 (by omega)
  rw [app_dk0 (by rw [HZ.out.2.2.1]; omega)] at HAP
  unfold MJ at HAP
  rw [show evD aD aF aN (dkF [⟨jN, Bs, 0⟩] 4611686018427387904, 0).2 = .nilIface from rfl] at HAP
  unfold jN at HAP
  simp only at HAP
  go_wp2_with fail
  refine HAP.mono ?_
  clear HAP
  rintro e V3 ⟨rfl, hj3, -⟩
  have HJ3 : Hid (Sj W (fun k => k = W.heap.size + 1 ∨ k = W.heap.size + 2) V3 (dkF [⟨jN, Bs, 0⟩] 4611686018427387904)) := hj3
  clear hj3 HJ2 c0 c1 c2 c3 c4
  have HN := number_nil V3
  go_wp2_with fail
  refine HN.mono ?_
  clear HN
  rintro e V4 ⟨rfl, hb4⟩
  have HJ4 : Hid (Sj W (fun k => k = W.heap.size + 1 ∨ k = W.heap.size + 2) V4 (dkF [⟨jN, Bs, 0⟩] 4611686018427387904)) := HJ3.out.later hb4.out
  clear hb4 HJ3
  -- b := disk.Number(d.Sync("journal"))
  have hok4 : (dkF [⟨jN, Bs, 0⟩] 4611686018427387904).Ok (nB + 2) := ok_dkF ⟨fun f hf => by simp at hf; subst hf; exact ⟨HZ.out.1, by simp, by simp⟩, by simp, by simp [usd]; have := HZ.out.2.2.1; omega⟩ ⟨by omega, by omega⟩
  have HSY := HJ4.out.syn H1.out.2.1 hok4 (by omega) jN
  clear hok4
  rw [syn_one] at HSY
  unfold MJ at HSY
  rw [show evD aD aF aN (dkF [⟨jN, Bs, (Bs.length : Int)⟩] 4611686018427387904, 0).2 = .nilIface from rfl] at HSY
  unfold jN at HSY
  simp only at HSY
  go_wp2_with fail
  refine HSY.mono ?_
  clear HSY
  rintro e V5 ⟨rfl, hj5, -⟩
  have HJ5 : Hid (Sj W (fun k => k = W.heap.size + 1 ∨ k = W.heap.size + 2) V5 (dkF [⟨jN, Bs, (Bs.length : Int)⟩] 4611686018427387904)) := hj5
  clear hj5 HJ4
  have HN := number_nil V5
  go_wp2_with fail
  refine HN.mono ?_
  clear HN
  rintro e V6 ⟨rfl, hb6⟩
  have HJ6 : Hid (Sj W (fun k => k = W.heap.size + 1 ∨ k = W.heap.size + 2) V6 (dkF [⟨jN, Bs, (Bs.length : Int)⟩] 4611686018427387904)) := HJ5.out.later hb6.out
  clear hb6 HJ5
  obtain ⟨c0, c1, c2, c3, c4⟩ := H1.out.1.below HJ6.out.bel
  go_upto_if 36 with fail
  go_cut [8] from 33 (fun q wx => q = .int .i64 0 ∧ ∃ D, Hid (Sj W (fun k => k = W.heap.size + 1 ∨ k = W.heap.size + 2) wx D ∧ PJ Bs (nB + nL + 2) act D))
  case first =>
    by_cases hL : nL = 0
    · have hL' : ¬ (0 : Int) < (nL : Int) := by omega
      clear hL
      go_wp2_with fail
      go_meet
      exact ⟨rfl, _, HJ6.out, pj_one HZ.out.1 ⟨by omega, by omega⟩ (by rw [HZ.out.2.2.1]; omega)⟩
    · have hL' : (0 : Int) < (nL : Int) := by omega
      have HAL := HJ6.out.app H1.out.2.1 (pj_one (act := 0) (B := nB + 2) HZ.out.1 ⟨by omega, by omega⟩ (by rw [HZ.out.2.2.1]; omega)).ok (by omega) jnN aL nL cL Ls HZ.out.2.2.2.1 H1.out.2.2.2.2 HZ.out.2.2.2.2.2.2.2 (by omega)
      rw [app_left (by rw [HZ.out.2.2.1, HZ.out.2.2.2.1]; omega)] at HAL
      unfold MJ at HAL
      rw [show evD aD aF aN (dkF [⟨jN, Bs, (Bs.length : Int)⟩, ⟨jnN, Ls, 0⟩] 4611686018427387904, 0).2 = .nilIface from rfl] at HAL
      unfold jnN at HAL
      simp only at HAL
      go_wp2_with fail
      refine HAL.mono ?_
      clear HAL
      rintro e V7 ⟨rfl, hj7, -⟩
      have HJ7 : Hid (Sj W (fun k => k = W.heap.size + 1 ∨ k = W.heap.size + 2) V7 (dkF [⟨jN, Bs, (Bs.length : Int)⟩, ⟨jnN, Ls, 0⟩] 4611686018427387904)) := hj7
      clear hj7
      have HN := number_nil V7
      go_wp2_with fail
      refine HN.mono ?_
      clear HN
      rintro e V8 ⟨rfl, hb8⟩
      go_wp2_with fail
      go_meet
      exact ⟨rfl, _, HJ7.out.later hb8.out, pj_two HZ.out.1 HZ.out.2.1 ⟨by omega, by omega⟩ (by rw [HZ.out.2.2.1, HZ.out.2.2.2.1]; omega)⟩
  case rest =>
    obtain ⟨rfl, D7, HJ7⟩ := hcut
    clear HJ6 c0 c1 c2 c3 c4
    obtain ⟨c0, c1, c2, c3, c4⟩ := H1.out.1.below HJ7.out.1.bel
    go_upto_if 44 with fail
    go_cut [8] from 42 (fun q wx => q = .int .i64 0 ∧ ∃ D, Hid (Sj W (fun k => k = W.heap.size + 1 ∨ k = W.heap.size + 2) wx D ∧ PJ Bs (nB + nL + 2) act D))
    case first =>
      by_cases ha : 0 ≤ act
      · have HAR := HJ7.out.1.armed act done
        go_wp2_with fail
        refine HAR.mono ?_
        clear HAR
        rintro e V8 ⟨⟨v8, rfl⟩, hj8, -⟩
        go_wp2_with fail
        go_meet
        exact ⟨rfl, _, hj8, pj_arm HJ7.out.2 ha hact⟩
      · have ha' : ¬ (0 : Int) ≤ act := ha
        go_wp2_with fail
        go_meet
        exact ⟨rfl, _, HJ7.out⟩
    case rest =>
      obtain ⟨rfl, D8, HJ8⟩ := hcut
      clear HJ7 c0 c1 c2 c3 c4
      obtain ⟨c0, c1, c2, c3, c4⟩ := H1.out.1.below HJ8.out.1.bel
      have HSC := scan2_any aB Bs nB cB wc HZ.out.1 HZ.out.2.2.1 hcB hcM (by omega) (lies_bel HJ8.out.1.bel H1.out.2.2.2.1)
      unfold ScPost at HSC
      obtain ⟨⟨ql, qn⟩, hq⟩ : ∃ q, scR Bs = q := ⟨_, rfl⟩
      rw [hq] at HSC
      simp only at HSC
      have hqs : 8 * ql.length ≤ nB := by have := scR_small Bs HZ.out.1; rw [hq, HZ.out.2.2.1] at this; exact this
      have hqn : qn ≤ nB := by have := scR_len HZ.out.1; rw [hq, HZ.out.2.2.1] at this; exact this
      have HQ : Hid (scR Bs = (ql, qn) ∧ (Bs.take qn).length = qn) := ⟨hq, by rw [List.length_take, HZ.out.2.2.1]; omega⟩
      clear hq
      go_wp2_with fail
      refine HSC.mono ?_
      clear HSC
      rintro e V9 ⟨vw, ow, rfl, hrl9, hom9, hb9⟩
      have hs9 := hb9.size
      have hj9 := HJ8.out.1.free hb9
      obtain ⟨X9, hX9⟩ : ∃ X : Nat → Prop, (fun k => (k = W.heap.size + 1 ∨ k = W.heap.size + 2) ∨ (wc.heap.size ≤ k ∧ k < V9.heap.size)) = X := ⟨_, rfl⟩
      have HX9 : Hid (∀ k, wc.heap.size ≤ k → k < V9.heap.size → X9 k) := fun k h1 h2 => by rw [← hX9]; exact .inr ⟨h1, h2⟩
      rw [hX9] at hj9
      have hlo : ow.length = ql.length := by rw [← hom9]; simp
      have HJ9 : Hid (Sj W X9 V9 D8 ∧ PJ Bs (nB + nL + 2) act D8) := ⟨hj9, HJ8.out.2⟩
      have HW9 : Hid (Rl V9 wc.heap.size vw ow ∧ ow.map Ro.r = ql) := ⟨hrl9, hom9⟩
      clear hX9 hj9 hrl9 hom9 hb9 HJ8 c0 c1 c2 c3 c4
      have HOP := HJ9.out.1.opn H1.out.2.1 HJ9.out.2.ok (by omega) (W.heap.size + 2) HJ9.out.1.dd.1 HJ9.out.1.dd.2
      obtain ⟨hjd, hok, hor⟩ := pj_open HZ.out.1 HJ9.out.2
      rw [HQ.out.1] at hor
      unfold OJ at HOP
      obtain ⟨O, hO⟩ : ∃ O, opX D8 = O := ⟨_, rfl⟩
      rw [hO] at HOP hjd hok hor
      have HO : Hid (Jd Bs O.d ∧ O.d.Ok (nB + nL + 2)) := ⟨hjd, hok⟩
      clear hO hjd hok
      rcases hor with ⟨hr, hl, hn⟩ | ⟨hr, ha⟩
      · rw [hr, hl, hn, show evD aD aF aN 0 = .nilIface from rfl] at HOP
        clear hr hl hn
        simp only at HOP
        go_wp2_with fail
        refine HOP.mono ?_
        clear HOP
        rintro e V10 ⟨pj, v10, rfl, hj10, hk10, hs10, -, hy10⟩
        obtain ⟨j1, o1, rfl, hjn1, hrl1, hom1⟩ := hy10 trivial
        clear hy10
        have HN := number_nil V10
        have HJ10 : Hid (Sj W X9 V10 O.d ∧ Jn V10 j1 (W.heap.size + 2) (qn : Nat) (O.k : Nat) ∧ Rl V10 V9.heap.size v10 o1 ∧ o1.map Ro.r = ql ∧ KX X9 V9 V10) := ⟨hj10, hjn1, hrl1, hom1, hk10⟩
        clear hj10 hjn1 hrl1 hom1 hk10
        go_wp2_with fail
        refine HN.mono ?_
        clear HN
        rintro e V11 ⟨rfl, hb11⟩
        have HSZ := jsize_any V11 j1 (W.heap.size + 2) (qn : Nat) (O.k : Nat) (jn_below HJ10.out.2.1 hb11.out)
        have HSM := same_rl (w := V11) (HJ10.out.2.2.1.keep hb11.out) ((HJ10.out.2.2.2.2.below HJ10.out.1 hb11.out).rl HW9.out.1 HX9.out) (by rw [HJ10.out.2.2.2.1, HW9.out.2]) (by have := congrArg List.length HJ10.out.2.2.2.1; rw [List.length_map] at this; omega)
        have HJ11 : Hid (Sj W X9 V11 O.d ∧ KX X9 V9 V11) := ⟨HJ10.out.1.later hb11.out, HJ10.out.2.2.2.2.below HJ10.out.1 hb11.out⟩
        clear hb11 HJ10
        go_wp2_with fail
        refine HSZ.mono ?_
        clear HSZ
        rintro e V11' ⟨rfl, rfl⟩
        go_wp2_with fail
        refine HSM.mono ?_
        clear HSM
        rintro e V12 ⟨rfl, hb12⟩
        have HJ12 : Hid (Sj W X9 V12 O.d ∧ KX X9 V9 V12) := ⟨HJ11.out.1.later hb12, HJ11.out.2.below HJ11.out.1 hb12⟩
        clear hb12 HJ11
        obtain ⟨c0, c1, c2, c3, c4⟩ := H1.out.1.below HJ12.out.1.bel
        have HCR := HJ12.out.1.crash HO.out.2 (by omega) keep
        go_wp2_with fail
        refine HCR.mono ?_
        clear HCR
        rintro e V13 ⟨⟨v13, rfl⟩, hj13, hk13⟩
        have hpu := pu_crash HO.out.1 HO.out.2 keep
        obtain ⟨D13, hD13⟩ : ∃ D, crD O.d keep = D := ⟨_, rfl⟩
        rw [hD13] at hj13 hpu
        have HJ13 : Hid (Sj W X9 V13 D13 ∧ PU Bs (nB + nL + 2) D13 ∧ KX X9 V9 V13) := ⟨hj13, hpu, HJ12.out.2.next hk13⟩
        clear hj13 hk13 hpu hD13 HJ12 c0 c1 c2 c3 c4
        have HDI := HJ13.out.1.disk
        go_wp2_with fail
        refine HDI.mono ?_
        clear HDI
        rintro e V14 ⟨rfl, hj14, hs14, hc14, hb14⟩
        obtain ⟨hpu2, hr2, hl2, hn2, hf2⟩ := pu_open HZ.out.1 HJ13.out.2.1
        have HOP := hj14.opn H1.out.2.1 HJ13.out.2.1.ok (by omega) V13.heap.size (.inr ⟨Nat.le_refl _, by omega⟩) hc14
        rw [HQ.out.1] at hl2 hn2 hf2
        unfold OJ at HOP
        obtain ⟨O2, hO2⟩ : ∃ O, opX D13 = O := ⟨_, rfl⟩
        rw [hO2] at HOP hpu2 hr2 hl2 hn2 hf2
        rw [hr2, hl2, hn2, show evD aD aF aN 0 = .nilIface from rfl] at HOP
        simp only at HOP hf2
        have HK14 : Hid (KX X9 V9 V14) := HJ13.out.2.2.below HJ13.out.1 hb14
        have H2 : Hid (PU Bs (nB + nL + 2) O2.d ∧ O2.d.fs = [⟨jN, Bs.take qn, (qn : Int)⟩]) := ⟨hpu2, hf2⟩
        clear hO2 hpu2 hr2 hl2 hn2 hf2 hj14 hc14 hb14
        go_wp2_with fail
        refine HOP.mono ?_
        clear HOP
        rintro e V15 ⟨pj2, v15, rfl, hj15, hk15, hs15, -, hy15⟩
        obtain ⟨j2, o2, rfl, hjn2, hrl2, hom2⟩ := hy15 trivial
        have HJ15 : Hid (Sj W X9 V15 O2.d ∧ Jn V15 j2 V13.heap.size (qn : Nat) (O2.k : Nat) ∧ KX X9 V9 V15) := ⟨hj15.drop (fun k q => .inl q) HJ13.out.1.hh.1 HJ13.out.1.dd.1, hjn2, HK14.out.next (fun k q => hk15 k (.inl q))⟩
        have HSM := same_rl (w := V15) hrl2 (HJ15.out.2.2.rl HW9.out.1 HX9.out) (by rw [hom2, HW9.out.2]) (by have := congrArg List.length hom2; rw [List.length_map] at this; omega)
        clear hy15 hj15 hjn2 hrl2 hom2 hk15 HK14
        go_wp2_with fail
        refine HSM.mono ?_
        clear HSM
        rintro e V16 ⟨rfl, hb16⟩
        have HJ16 : Hid (Sj W X9 V16 O2.d ∧ Jn V16 j2 V13.heap.size (qn : Nat) (O2.k : Nat) ∧ KX X9 V9 V16) := ⟨HJ15.out.1.later hb16, jn_below HJ15.out.2.1 hb16, HJ15.out.2.2.below HJ15.out.1 hb16⟩
        clear hb16 HJ15
        have HFI := HJ16.out.1.files H2.out.1.ok (by omega)
        unfold FilP at HFI
        go_wp2_with fail
        refine HFI.mono ?_
        clear HFI
        rintro e V17 ⟨v17, L17, rfl, hfo, hfm, hb17⟩
        obtain ⟨g17, cap17, a17, c17, rfl, k0, k1⟩ := fo_one hfo (hfm.trans H2.out.2)
        simp only [HQ.out.2] at k0 k1
        unfold jN at k0
        have HJ17 : Hid (Sj W X9 V17 O2.d ∧ KX X9 V9 V17) := ⟨HJ16.out.1.later hb17, HJ16.out.2.2.below HJ16.out.1 hb17⟩
        have HSZ := jsize_any V17 j2 V13.heap.size (qn : Nat) (O2.k : Nat) (jn_below HJ16.out.2.1 hb17)
        clear hfo hfm hb17 HJ16
        go_wp2_with fail
        refine HSZ.mono ?_
        clear HSZ
        rintro e V17' ⟨rfl, rfl⟩
        have HDI := HJ17.out.1.disk
        go_wp2_with fail
        refine HDI.mono ?_
        clear HDI
        rintro e V18 ⟨rfl, hj18, hs18, hc18, hb18⟩
        obtain ⟨hpu3, hr3, hl3, hn3, hf3⟩ := pu_open HZ.out.1 H2.out.1
        have HOP := hj18.opn H1.out.2.1 H2.out.1.ok (by omega) V17'.heap.size (.inr ⟨Nat.le_refl _, by omega⟩) hc18
        rw [HQ.out.1] at hl3 hn3
        unfold OJ at HOP
        obtain ⟨O3, hO3⟩ : ∃ O, opX O2.d = O := ⟨_, rfl⟩
        rw [hO3] at HOP hr3 hl3 hn3
        rw [hr3, hl3, hn3, show evD aD aF aN 0 = .nilIface from rfl] at HOP
        simp only at HOP
        have HK18 : Hid (KX X9 V9 V18) := HJ17.out.2.below HJ17.out.1 hb18
        clear hO3 hpu3 hr3 hl3 hn3 hf3 hj18 hc18 hb18 k0 k1
        go_wp2_with fail
        refine HOP.mono ?_
        clear HOP
        rintro e V19 ⟨pj3, v19, rfl, hj19, hk19, hs19, -, hy19⟩
        obtain ⟨j3, o3, rfl, hjn3, hrl3, hom3⟩ := hy19 trivial
        have HK19 : Hid (KX X9 V9 V19) := HK18.out.next (fun k q => hk19 k (.inl q))
        have HSM := same_rl (w := V19) hrl3 (HK19.out.rl HW9.out.1 HX9.out) (by rw [hom3, HW9.out.2]) (by have := congrArg List.length hom3; rw [List.length_map] at this; omega)
        have HJ19 : Hid (Below W.heap.size W V19 ∧ Jn V19 j3 V17'.heap.size (qn : Nat) (O3.k : Nat)) := ⟨hj19.bel, hjn3⟩
        clear hy19 hj19 hjn3 hrl3 hom3 hk19 HK18 HK19
        go_wp2_with fail
        refine HSM.mono ?_
        clear HSM
        rintro e V20 ⟨rfl, hb20⟩
        have HSZ := jsize_any V20 j3 V17'.heap.size (qn : Nat) (O3.k : Nat) (jn_below HJ19.out.2 hb20)
        have HE : Hid (Below w.heap.size w V20) := (H1.out.2.2.1.trans (HJ19.out.1.mono H1.out.2.2.1.size)).trans (hb20.mono (Nat.le_trans H1.out.2.2.1.size HJ19.out.1.size))
        clear hb20 HJ19
        go_wp2_with fail
        refine HSZ.mono ?_
        clear HSZ
        rintro e V20' ⟨rfl, rfl⟩
        go_wp2
        go_ret
        exact ⟨rfl, HE.out⟩
      · rw [hr, show evD aD aF aN 2 = .iface 218 (.pointer (some aD)) from rfl] at HOP
        have ha' : ¬ act < 0 := by omega
        clear hr
        go_wp2_with fail
        refine HOP.mono ?_
        clear HOP
        rintro e V10 ⟨pj, v10, rfl, hj10, hk10, hs10, hno, -⟩
        obtain ⟨rfl, rfl⟩ := hno (by omega)
        clear hno
        have HN := number_down V10 (fun _ => False) aD aF aN (H1.out.2.1.snt hj10.bel (fun k q => q.elim)).1
        have HJ10 : Hid (Sj W X9 V10 O.d ∧ KX X9 V9 V10) := ⟨hj10, hk10⟩
        clear hj10 hk10
        go_wp2_with fail
        refine HN.mono ?_
        clear HN
        rintro e V12 ⟨rfl, hb12⟩
        have HJ12 : Hid (Sj W X9 V12 O.d ∧ KX X9 V9 V12) := ⟨HJ10.out.1.later hb12.out, HJ10.out.2.below HJ10.out.1 hb12.out⟩
        clear hb12 HJ10
        obtain ⟨c0, c1, c2, c3, c4⟩ := H1.out.1.below HJ12.out.1.bel
        have HCR := HJ12.out.1.crash HO.out.2 (by omega) keep
        go_wp2_with fail
        refine HCR.mono ?_
        clear HCR
        rintro e V13 ⟨⟨v13, rfl⟩, hj13, hk13⟩
        have hpu := pu_crash HO.out.1 HO.out.2 keep
        obtain ⟨D13, hD13⟩ : ∃ D, crD O.d keep = D := ⟨_, rfl⟩
        rw [hD13] at hj13 hpu
        have HJ13 : Hid (Sj W X9 V13 D13 ∧ PU Bs (nB + nL + 2) D13 ∧ KX X9 V9 V13) := ⟨hj13, hpu, HJ12.out.2.next hk13⟩
        clear hj13 hk13 hpu hD13 HJ12 c0 c1 c2 c3 c4
        have HDI := HJ13.out.1.disk
        go_wp2_with fail
        refine HDI.mono ?_
        clear HDI
        rintro e V14 ⟨rfl, hj14, hs14, hc14, hb14⟩
        obtain ⟨hpu2, hr2, hl2, hn2, hf2⟩ := pu_open HZ.out.1 HJ13.out.2.1
        have HOP := hj14.opn H1.out.2.1 HJ13.out.2.1.ok (by omega) V13.heap.size (.inr ⟨Nat.le_refl _, by omega⟩) hc14
        rw [HQ.out.1] at hl2 hn2 hf2
        unfold OJ at HOP
        obtain ⟨O2, hO2⟩ : ∃ O, opX D13 = O := ⟨_, rfl⟩
        rw [hO2] at HOP hpu2 hr2 hl2 hn2 hf2
        rw [hr2, hl2, hn2, show evD aD aF aN 0 = .nilIface from rfl] at HOP
        simp only at HOP hf2
        have HK14 : Hid (KX X9 V9 V14) := HJ13.out.2.2.below HJ13.out.1 hb14
        have H2 : Hid (PU Bs (nB + nL + 2) O2.d ∧ O2.d.fs = [⟨jN, Bs.take qn, (qn : Int)⟩]) := ⟨hpu2, hf2⟩
        clear hO2 hpu2 hr2 hl2 hn2 hf2 hj14 hc14 hb14
        go_wp2_with fail
        refine HOP.mono ?_
        clear HOP
        rintro e V15 ⟨pj2, v15, rfl, hj15, hk15, hs15, -, hy15⟩
        obtain ⟨j2, o2, rfl, hjn2, hrl2, hom2⟩ := hy15 trivial
        have HJ15 : Hid (Sj W X9 V15 O2.d ∧ Jn V15 j2 V13.heap.size (qn : Nat) (O2.k : Nat) ∧ KX X9 V9 V15) := ⟨hj15.drop (fun k q => .inl q) HJ13.out.1.hh.1 HJ13.out.1.dd.1, hjn2, HK14.out.next (fun k q => hk15 k (.inl q))⟩
        have HSM := same_rl (w := V15) hrl2 (HJ15.out.2.2.rl HW9.out.1 HX9.out) (by rw [hom2, HW9.out.2]) (by have := congrArg List.length hom2; rw [List.length_map] at this; omega)
        clear hy15 hj15 hjn2 hrl2 hom2 hk15 HK14
        go_wp2_with fail
        refine HSM.mono ?_
        clear HSM
        rintro e V16 ⟨rfl, hb16⟩
        have HJ16 : Hid (Sj W X9 V16 O2.d ∧ Jn V16 j2 V13.heap.size (qn : Nat) (O2.k : Nat) ∧ KX X9 V9 V16) := ⟨HJ15.out.1.later hb16, jn_below HJ15.out.2.1 hb16, HJ15.out.2.2.below HJ15.out.1 hb16⟩
        clear hb16 HJ15
        have HFI := HJ16.out.1.files H2.out.1.ok (by omega)
        unfold FilP at HFI
        go_wp2_with fail
        refine HFI.mono ?_
        clear HFI
        rintro e V17 ⟨v17, L17, rfl, hfo, hfm, hb17⟩
        obtain ⟨g17, cap17, a17, c17, rfl, k0, k1⟩ := fo_one hfo (hfm.trans H2.out.2)
        simp only [HQ.out.2] at k0 k1
        unfold jN at k0
        have HJ17 : Hid (Sj W X9 V17 O2.d ∧ KX X9 V9 V17) := ⟨HJ16.out.1.later hb17, HJ16.out.2.2.below HJ16.out.1 hb17⟩
        have HSZ := jsize_any V17 j2 V13.heap.size (qn : Nat) (O2.k : Nat) (jn_below HJ16.out.2.1 hb17)
        clear hfo hfm hb17 HJ16
        go_wp2_with fail
        refine HSZ.mono ?_
        clear HSZ
        rintro e V17' ⟨rfl, rfl⟩
        have HDI := HJ17.out.1.disk
        go_wp2_with fail
        refine HDI.mono ?_
        clear HDI
        rintro e V18 ⟨rfl, hj18, hs18, hc18, hb18⟩
        obtain ⟨hpu3, hr3, hl3, hn3, hf3⟩ := pu_open HZ.out.1 H2.out.1
        have HOP := hj18.opn H1.out.2.1 H2.out.1.ok (by omega) V17'.heap.size (.inr ⟨Nat.le_refl _, by omega⟩) hc18
        rw [HQ.out.1] at hl3 hn3
        unfold OJ at HOP
        obtain ⟨O3, hO3⟩ : ∃ O, opX O2.d = O := ⟨_, rfl⟩
        rw [hO3] at HOP hr3 hl3 hn3
        rw [hr3, hl3, hn3, show evD aD aF aN 0 = .nilIface from rfl] at HOP
        simp only at HOP
        have HK18 : Hid (KX X9 V9 V18) := HJ17.out.2.below HJ17.out.1 hb18
        clear hO3 hpu3 hr3 hl3 hn3 hf3 hj18 hc18 hb18 k0 k1
        go_wp2_with fail
        refine HOP.mono ?_
        clear HOP
        rintro e V19 ⟨pj3, v19, rfl, hj19, hk19, hs19, -, hy19⟩
        obtain ⟨j3, o3, rfl, hjn3, hrl3, hom3⟩ := hy19 trivial
        have HK19 : Hid (KX X9 V9 V19) := HK18.out.next (fun k q => hk19 k (.inl q))
        have HSM := same_rl (w := V19) hrl3 (HK19.out.rl HW9.out.1 HX9.out) (by rw [hom3, HW9.out.2]) (by have := congrArg List.length hom3; rw [List.length_map] at this; omega)
        have HJ19 : Hid (Below W.heap.size W V19 ∧ Jn V19 j3 V17'.heap.size (qn : Nat) (O3.k : Nat)) := ⟨hj19.bel, hjn3⟩
        clear hy19 hj19 hjn3 hrl3 hom3 hk19 HK18 HK19
        go_wp2_with fail
        refine HSM.mono ?_
        clear HSM
        rintro e V20 ⟨rfl, hb20⟩
        have HSZ := jsize_any V20 j3 V17'.heap.size (qn : Nat) (O3.k : Nat) (jn_below HJ19.out.2 hb20)
        have HE : Hid (Below w.heap.size w V20) := (H1.out.2.2.1.trans (HJ19.out.1.mono H1.out.2.2.1.size)).trans (hb20.mono (Nat.le_trans H1.out.2.2.1.size HJ19.out.1.size))
        clear hb20 HJ19
        go_wp2_with fail
        refine HSZ.mono ?_
        clear HSZ
        rintro e V20' ⟨rfl, rfl⟩
        go_wp2
        go_ret
        exact ⟨rfl, HE.out⟩
end Go.Proofs.YtllhbhogfffedaaGreatDoor.K
