import Derived.Test.YtfghdhikjhbbgadDoorBkMay
import Derived.Test.YtfghdhikjhbbgadDoorBkSap
namespace Go.Proofs.YtfghdhikjhbbgadDoor
open Go.RowKit

abbrev akO (k : Pk) (b : Int) : Obj := .cells #[.int .i64 k.org, .int .i64 k.num, .int .i64 k.srv, .int .i64 k.size, .int .i64 k.red, .int .i64 k.mtu, .int .i64 k.every, .int .i64 b] 30
theorem ak_cells {W : World} {g : Nat} {k : Pk} {b : Int} (h : W.heap[g]? = some (akO k b)) :
    W.cell? ⟨g, 0, none⟩ = some (.int .i64 k.org) ∧ W.cell? ⟨g, 1, none⟩ = some (.int .i64 k.num) ∧ W.cell? ⟨g, 2, none⟩ = some (.int .i64 k.srv) ∧ W.cell? ⟨g, 3, none⟩ = some (.int .i64 k.size) ∧ W.cell? ⟨g, 4, none⟩ = some (.int .i64 k.red) ∧ W.cell? ⟨g, 5, none⟩ = some (.int .i64 k.mtu) ∧ W.cell? ⟨g, 6, none⟩ = some (.int .i64 k.every) ∧ W.cell? ⟨g, 7, none⟩ = some (.int .i64 b) :=
  ⟨cell_of_row _ _ 0 _ _ _ h, cell_of_row _ _ 1 _ _ _ h, cell_of_row _ _ 2 _ _ _ h, cell_of_row _ _ 3 _ _ _ h, cell_of_row _ _ 4 _ _ _ h, cell_of_row _ _ 5 _ _ _ h, cell_of_row _ _ 6 _ _ _ h, cell_of_row _ _ 7 _ _ _ h⟩

/-- What lies there while the pieces are looked at. -/
structure FW (k : Pk) (b : Int) (l : List Pc) (v : Value) (w : World) (ba gz : Nat) (V : World) : Prop where
  ask : V.heap[w.heap.size]? = some (akO k b)
  row : POwn V ba v l
  zer : V.heap[gz]? = some (.cells (zrs k.size.toNat) 5)
  bel : Below w.heap.size w V
theorem FW.below {k : Pk} {b : Int} {l : List Pc} {v : Value} {w : World} {ba gz : Nat} {V V' : World} (h : FW k b l v w ba gz V) (hb : Below V.heap.size V V') : FW k b l v w ba gz V' :=
  ⟨(hb.block _ (Array.getElem?_eq_some_iff.mp h.ask).1).trans h.ask, h.row.below hb, (hb.block _ (Array.getElem?_eq_some_iff.mp h.zer).1).trans h.zer, h.bel.trans (hb.mono h.bel.size)⟩
theorem zrs_lies {V : World} {g n : Nat} (h : V.heap[g]? = some (.cells (zrs n) 5)) : Lies .u8 V (some ⟨g, 0, none⟩) (List.replicate n 0) := by
  have : V.ownsRow 0 5 1 (.slice (some ⟨g, 0, none⟩) n (min n maxLen)) n ((List.replicate n (0 : Int)).map (Value.int .u8)) ∨ True := .inr trivial
  refine .inr ⟨g, 0, rfl, fun i hi => ?_⟩
  rw [List.length_replicate] at hi
  have hc : V.cell? ⟨g, 0 + i, none⟩ = (zrs n)[0 + i]? := by simp [World.cell?, h]
  rw [hc]
  simp [zrs, hi, List.getD_eq_getElem?_getD]
theorem bytey_zero (n : Nat) : Bytey (List.replicate n 0) := fun z hz => by rw [(List.mem_replicate.mp hz).2]; omega

theorem cut_no {k : Pk} {b : Int} (h : mayB k b = false) : (cut k b).1 = [] ∧ (cut k b).2 ≠ 0 := by
  unfold mayB at h
  unfold cut
  split
  · exact ⟨rfl, by decide⟩
  · rename_i h1
    split
    · exact ⟨rfl, by decide⟩
    · rename_i h2
      split
      · exact ⟨rfl, by decide⟩
      · rename_i h3
        simp only [Bool.not_eq_false] at h1 h2
        rw [h1, h2] at h
        simp at h
        omega
theorem cut_yes {k : Pk} {b : Int} (h : mayB k b = true) : k.Ok ∧ 0 ≤ b ∧ b ≤ 4611686018427322367 ∧ cut k b = (cutL k b, 0) := by
  unfold mayB at h
  simp only [Bool.and_eq_true, decide_eq_true_eq] at h
  obtain ⟨h1, h2, h3, h4⟩ := h
  refine ⟨Pk.ok_of h1 h2, h3, h4, ?_⟩
  unfold cut
  rw [h1, h2, if_neg (by simp), if_neg (by simp), if_neg (by omega)]

attribute [local go_sem ↓] wp_make_bytes
theorem pNat_i (k : IntKind) (n : Int) : pNat (.int k n) = n.toNat := rfl
attribute [local go_sem] pNat_i
/-- A box that no tactic opens. -/
structure Bx (p : Prop) : Prop where
  out : p
/-- What the law says. -/
def FillSays : Prop := ∀ (k : Pk) (b : Int) (w : World), Tab w → Calls Tryd.prog 8 #[.agg #[.int .i64 k.org, .int .i64 k.num, .int .i64 k.srv, .int .i64 k.size, .int .i64 k.red, .int .i64 k.mtu, .int .i64 k.every, .int .i64 b]] w fun e w' => e = .returned (.bool true) ∧ Below w.heap.size w w'
/-- The ways of a round behind the call of fits, as they stand there, and the rest of the walk over them. -/
structure FillWays where
  G0 : Prop
  G1 : Prop
  G2 : Prop
  G3 : Prop
  G4 : Prop
  G5 : Prop
  G6 : Prop
  G7 : Prop
  G8 : Prop
  G9 : Prop
  G10 : Prop
  pf : Bx G0 → Bx G1 → Bx G2 → Bx G3 → Bx G4 → Bx G5 → Bx G6 → Bx G7 → Bx G8 → Bx G9 → Bx G10 → FillSays
set_option maxRecDepth 100000 in
set_option maxHeartbeats 80000000 in
def fillWays : FillWays := by
  apply FillWays.mk
  intro HG0 HG1 HG2 HG3 HG4 HG5 HG6 HG7 HG8 HG9 HG10
  intro k b w hT
  have HT : Hid (∀ W, Below w.heap.size w W → Tab W) := fun W hW => hT.below hW (tab_pos hT)
  have hlen := cut_len k b
  have HB0 : Hid (Below w.heap.size w (w.alloc (akO k b))) := (Below.refl _ _).alloc (Nat.le_refl _) _
  have HX0 : Hid ((w.alloc (akO k b)).heap[w.heap.size]? = some (akO k b)) := heap_alloc_new' w _
  have hA := awake4_any (w.alloc (akO k b)) (HT.out _ HB0.out)
  have hC := fun W (hW : Below w.heap.size w W) => cut_any k b W (HT.out W hW)
  have hM := fun W => may_any k b W
  clear hT
  go_enter Tryd.func8, Tryd.ntmps8
  go_wp2_with fail
  refine hA.mono ?_
  rintro e w1 ⟨rfl, hb1⟩
  have HB1 : Hid (Below w.heap.size w w1) := HB0.out.trans (hb1.mono (by simp))
  have HX1 : Hid (w1.heap[w.heap.size]? = some (akO k b)) := (hb1.block _ (by simp)).trans HX0.out
  obtain ⟨a0, a1, a2, a3, a4, a5, a6, a7⟩ := ak_cells HX1.out
  clear hA hb1 HB0 HX0
  go_wp2_with fail
  refine (hC w1 HB1.out).mono ?_
  rintro e w2 ⟨v2, rfl, ho2, hb2⟩
  have HB2 : Hid (Below w.heap.size w w2) := HB1.out.trans (hb2.mono HB1.out.size)
  have HX2 : Hid (w2.heap[w.heap.size]? = some (akO k b)) := (hb2.block _ (Array.getElem?_eq_some_iff.mp HX1.out).1).trans HX1.out
  have HO2 : Hid (POwn w2 w1.heap.size v2 (cut k b).1) := ho2
  clear hC hb2 ho2 HB1 HX1 a0 a1 a2 a3 a4 a5 a6 a7
  obtain ⟨a0, a1, a2, a3, a4, a5, a6, a7⟩ := ak_cells HX2.out
  obtain ⟨ga, gc, rfl⟩ := own_shp HO2.out
  go_wp2_with fail
  refine (hM w2).mono ?_
  rintro e w3 ⟨rfl, hb3⟩
  have HB3 : Hid (Below w.heap.size w w3) := HB2.out.trans (hb3.mono HB2.out.size)
  have HX3 : Hid (w3.heap[w.heap.size]? = some (akO k b)) := (hb3.block _ (Array.getElem?_eq_some_iff.mp HX2.out).1).trans HX2.out
  have HO3 : Hid (POwn w3 w1.heap.size (.slice ga (cut k b).1.length gc) (cut k b).1) := HO2.out.below hb3
  clear hM hb3 HB2 HX2 HO2 a0 a1 a2 a3 a4 a5 a6 a7
  obtain ⟨m, hm⟩ : ∃ m, mayB k b = m := ⟨_, rfl⟩
  rw [hm]
  cases m with
  | false =>
    obtain ⟨h1, h2⟩ := cut_no hm
    rw [h1]
    generalize (cut k b).2 = er at *
    have HE : Hid ((er != 0) = true) := by unfold Hid; simpa using h2
    go_wp2
    go_ret
    exact ⟨by show Ending.returned (.bool (er != 0)) = _; rw [HE.out], HB3.out⟩
  | true =>
    obtain ⟨ok, hb0, hb1, hcut⟩ := cut_yes hm
    rw [hcut] at HO3 hlen ⊢
    simp only at HO3 hlen ⊢
    have HF0 : Hid (FSt k b (cutL k b) 0 (b + 1) 0) := FSt.start ok hb0
    generalize cutL k b = l at *
    have hks := ok.size
    have hkr := ok.red
    have hmk : Makes (.int .i64 k.size) (.int .i64 k.size) := ⟨k.size.toNat, by rw [Int.toNat_of_nonneg (by omega)], by rw [Int.toNat_of_nonneg (by omega)], by omega⟩
    obtain ⟨a0, a1, a2, a3, a4, a5, a6, a7⟩ := ak_cells HX3.out
    have hwb : IntKind.i64.wrap (b + 1) = b + 1 := by rw [IntKind.wrap_i64]; omega
    have HW4 : Hid (FW k b l (.slice ga l.length gc) w w1.heap.size w3.heap.size (w3.alloc (.cells (zrs k.size.toNat) 5))) :=
      ⟨heapA HX3.out _, HO3.out.below ((Below.refl _ _).alloc (Nat.le_refl _) _), heap_alloc_new' w3 _, HB3.out.alloc HB3.out.size _⟩
    have a7' := cellA a7 (.cells (zrs k.size.toNat) 5)
    go_wp2_with fail
    clear a0 a1 a2 a3 a4 a5 a6 a7 a7' HO3 HX3 HB3
    generalize w3.alloc (.cells (zrs k.size.toNat) 5) = w4 at *
    generalize w3.heap.size = gz at *
    go_loopw [8, 9, 10, 11] (fun x y z t wr => ∃ (i : Nat) (a nx pl : Int), i ≤ l.length ∧ t = .int .i64 i ∧ x = .int .i64 a ∧ y = .int .i64 nx ∧ z = .int .i64 pl ∧ FSt k b (l.drop i) a nx pl ∧ FW k b l (.slice ga l.length gc) w w1.heap.size gz wr) (fun _ _ _ t _ => l.length - (intOf t).toNat)
    case atStart => exact ⟨0, 0, b + 1, 0, Nat.zero_le _, rfl, rfl, rfl, rfl, HF0.out, HW4.out⟩
    case round =>
      obtain ⟨i, a, nx, pl, hil, rfl, rfl, rfl, rfl, hfs, hfw⟩ := hrel
      clear HW4 HF0
      by_cases hi : i < l.length
      · have hi' : (i : Int) < (l.length : Int) := by omega
        have hp : l[i]? = some l[i] := List.getElem?_eq_getElem hi
        have hdr : l.drop i = l[i] :: l.drop (i + 1) := List.drop_eq_getElem_cons hi
        generalize l[i] = y at hp hdr
        rw [hdr] at hfs
        obtain ⟨L, lc, hL⟩ := own_pos hfw.row (by omega)
        simp only [Value.slice.injEq, true_and] at hL
        obtain ⟨rfl, rfl⟩ := hL
        obtain ⟨q0, q1, q2, q3, q4⟩ := hfw.row.cells hp
        have hn0 := hfs.n0
        have hn1 := hfs.n1
        have ha1 := hfs.a1
        have hp0 := hfs.p0
        have hp1 := hfs.p1
        obtain ⟨hpf, hfrm, nx', pl', hkd, hfs'⟩ := FSt.step ok ⟨hb0, hb1⟩ hfs
        obtain ⟨ty, frm, tt, ck, rp⟩ := y
        simp only at hfrm q0 q1 q2 q3 q4
        subst hfrm
        have HPF : Hid (PF k ⟨ty, frm, tt, ck, rp⟩) := hpf
        have HFS : Hid (FSt k b (l.drop (i + 1)) tt nx' pl') := hfs'
        have hlt : frm < tt := hpf.lt
        have hhi : tt ≤ k.size := hpf.hi
        have HFW : Hid (FW k b l (.slice (some ⟨L, 0, none⟩) l.length gc) w w1.heap.size gz (wr.alloc (.cells #[.int .i64 ty, .int .i64 frm, .int .i64 tt, .int .i64 ck, .int .i64 rp] 46))) := hfw.below ((Below.refl _ _).alloc (Nat.le_refl _) _)
        have HPC : Hid ((wr.alloc (.cells #[.int .i64 ty, .int .i64 frm, .int .i64 tt, .int .i64 ck, .int .i64 rp] 46)).heap[wr.heap.size]? = some (.cells #[.int .i64 ty, .int .i64 frm, .int .i64 tt, .int .i64 ck, .int .i64 rp] 46)) := heap_alloc_new' wr _
        obtain ⟨a0, a1, a2, a3, a4, a5, a6, a7⟩ := ak_cells HFW.out.ask
        clear hpf hfw hfs hfs' hdr hp
        go_wp2_with fail
        refine (fits_ok ok ⟨ty, frm, tt, ck, rp⟩ gz (List.replicate k.size.toNat 0) k.size.toNat k.size.toNat _ (HT.out _ HFW.out.bel) (by simp) (Nat.le_refl _) (by omega) (zrs_lies HFW.out.zer) (bytey_zero _) HPF.out.pc HPF.out.ty HPF.out.no HPF.out.hi HPF.out.fit HPF.out.f0).mono ?_
        rintro e w5 ⟨rfl, hb5⟩
        have HFW5 : Hid (FW k b l (.slice (some ⟨L, 0, none⟩) l.length gc) w w1.heap.size gz w5) := HFW.out.below hb5
        have HPC5 : Hid (w5.heap[wr.heap.size]? = some (.cells #[.int .i64 ty, .int .i64 frm, .int .i64 tt, .int .i64 ck, .int .i64 rp] 46)) := (hb5.block _ (Array.getElem?_eq_some_iff.mp HPC.out).1).trans HPC.out
        clear a0 a1 a2 a3 a4 a5 a6 a7 HFW HPC hb5 q0 q1 q2 q3 q4
        generalize wr.heap.size = gp at *
        have hle : ¬ tt ≤ frm := by omega
        have hsz : ¬ k.size < tt := by omega
        have hnp : 0 < nx := by omega
        have hev := ok.every
        have hwn : IntKind.i64.wrap (nx + 1) = nx + 1 := by rw [IntKind.wrap_i64]; omega
        have hwp : IntKind.i64.wrap (pl + 1) = pl + 1 := by rw [IntKind.wrap_i64]; omega
        have hwe : IntKind.i64.wrap (k.every - 1) = k.every - 1 := by rw [IntKind.wrap_i64]; omega
        have hwr : IntKind.i64.wrap (k.red - 1) = k.red - 1 := by rw [IntKind.wrap_i64]; omega
        have HLG : Hid (∀ W, Below w.heap.size w W → Calls Tryd.prog 29 #[.agg #[.int .i64 k.org, .int .i64 k.num], .agg #[.int .i64 k.srv, .int .i64 k.size, .int .i64 k.red, .int .i64 k.mtu, .int .i64 k.every], .agg #[.int .i64 ty, .int .i64 frm, .int .i64 tt, .int .i64 ck, .int .i64 rp]] W fun e w' => e = .returned (.bool (decide (65536 < tt + 1) || !fitB (frX k ⟨ty, frm, tt, ck, rp⟩) k.mtu (tt + 1 - frm))) ∧ Below W.heap.size W w') := fun W hW => longer_ok ok ⟨ty, frm, tt, ck, rp⟩ W (HT.out W hW) HPF.out.lo HPF.out.lt HPF.out.hi HPF.out.ty HPF.out.no HPF.out.fit HPF.out.f0
        have HFU : Hid (tt = k.red ∨ tt = k.size ∨ (ty = 0 ∧ tt = k.red - 1) ∨ (decide (65536 < tt + 1) || !fitB (frX k ⟨ty, frm, tt, ck, rp⟩) k.mtu (tt + 1 - frm)) = true) := by
          rcases HPF.out.full with h | h | h | h
          · exact .inl h
          · exact .inr (.inl h)
          · exact .inr (.inr (.inl h))
          · exact .inr (.inr (.inr (by rw [show fitB (frX k ⟨ty, frm, tt, ck, rp⟩) k.mtu (tt + 1 - frm) = false from h]; simp)))
        generalize (decide (65536 < tt + 1) || !fitB (frX k ⟨ty, frm, tt, ck, rp⟩) k.mtu (tt + 1 - frm)) = q at *
        have HKR : Hid (0 ≤ k.red ∧ k.red ≤ k.size) := hkr
        clear HPF hkr hks hlt hhi hev hcut hm hmk hwb HT
        unfold Kd at hkd
        dsimp only at hkd
        rcases hkd with ⟨h1, rfl, h3, rfl, rfl, rfl, rfl, rfl⟩ | ⟨h1, rfl, h3, rfl, rfl, rfl, rfl, rfl⟩ | ⟨h1, h2, rfl, h4, rfl, rfl, rfl, rfl, rfl⟩ | ⟨h1, h2, rfl, rfl, rfl, h6, rfl, rfl⟩ | ⟨h1, rfl, rfl, rfl, rfl, rfl, rfl⟩ | ⟨h1, h2, rfl, rfl, rfl, rfl, rfl⟩
        · have hne : ¬ k.red = k.size := by omega
          clear HFU
          rcases Int.lt_or_le 0 k.every with hev | hev
          · have hez : ¬ k.every = 0 := by omega
            rename_i Z0 Z1 Z2 Z3 Z4 Z5 Z6 Z7 Z8 Z9
            revert k b w Z0 w1 w2 gc w3 ok hb0 hb1 l hlen Z1 Z2 w4 gz wr u2 u12 u13 u14 u15 u16 u17 u54 u55 u56 u57 u58 u59 u60 u61 u62 u63 u64 u65 u66 u67 u68 u69 u70 u71 u72 u73 u74 u75 u76 u77 u78 u79 u80 u81 u82 u83 u84 u85 u86 u87 u88 u89 u90 u91 u92 u93 u94 u95 u96 u97 u98 u99 u100 u101 u102 u103 u104 u105 u106 u107 u108 u109 u110 u111 u112 u113 u114 u115 u116 u117 u118 u119 u120 u121 u122 u123 u124 u125 u126 u127 u128 u129 u130 u131 u132 u133 u134 u135 u136 u137 u138 u139 u140 u141 u142 u143 u144 u145 u146 u147 u148 u149 u150 u151 u152 u153 u154 u155 u156 u157 u158 u159 u160 u161 u162 u163 u164 u165 u166 u167 u168 u169 u170 u171 u172 u173 u174 u175 u176 u177 u178 u179 u180 u181 u182 u183 u184 u185 u186 u187 u188 u189 u190 u191 u192 u193 u194 u195 u196 u197 u198 u199 u200 u201 u202 u203 u204 u205 u206 u207 u208 u209 u210 u211 u212 u213 u214 u215 u216 u217 u218 u219 u220 u221 u222 u223 u224 u225 u226 u227 u228 u229 u230 u231 u232 u233 u234 u235 u236 u237 u238 u239 u240 u241 u242 u243 u244 u245 u246 u247 u248 u249 u250 u251 u252 u253 u254 u255 u256 u257 u258 u259 u260 u261 u262 u263 u264 u265 u266 u267 u268 u269 u270 u271 u272 u273 u274 u275 u276 u277 u278 u279 u280 u281 u282 u283 u284 u285 u286 u287 u288 u289 u290 i pl hil hi hi' L hp0 frm ck ha1 hp1 Z3 Z4 Z5 w5 HFW5 gp hwp hwe hwr q HKR h1 hle hsz h3 hn0 hn1 Z6 Z7 Z8 Z9 hnp hwn HPC5 HLG HFS hne hev hez
            exact HG0.out
          · have hez : (k.every == 0) = true := by have := ok.every; exact beq_iff_eq.mpr (by omega)
            have hez' : ¬ 0 < k.every := by omega
            rename_i Z0 Z1 Z2 Z3 Z4 Z5 Z6 Z7 Z8 Z9
            revert k b w Z0 w1 w2 gc w3 ok hb0 hb1 l hlen Z1 Z2 w4 gz wr u2 u12 u13 u14 u15 u16 u17 u54 u55 u56 u57 u58 u59 u60 u61 u62 u63 u64 u65 u66 u67 u68 u69 u70 u71 u72 u73 u74 u75 u76 u77 u78 u79 u80 u81 u82 u83 u84 u85 u86 u87 u88 u89 u90 u91 u92 u93 u94 u95 u96 u97 u98 u99 u100 u101 u102 u103 u104 u105 u106 u107 u108 u109 u110 u111 u112 u113 u114 u115 u116 u117 u118 u119 u120 u121 u122 u123 u124 u125 u126 u127 u128 u129 u130 u131 u132 u133 u134 u135 u136 u137 u138 u139 u140 u141 u142 u143 u144 u145 u146 u147 u148 u149 u150 u151 u152 u153 u154 u155 u156 u157 u158 u159 u160 u161 u162 u163 u164 u165 u166 u167 u168 u169 u170 u171 u172 u173 u174 u175 u176 u177 u178 u179 u180 u181 u182 u183 u184 u185 u186 u187 u188 u189 u190 u191 u192 u193 u194 u195 u196 u197 u198 u199 u200 u201 u202 u203 u204 u205 u206 u207 u208 u209 u210 u211 u212 u213 u214 u215 u216 u217 u218 u219 u220 u221 u222 u223 u224 u225 u226 u227 u228 u229 u230 u231 u232 u233 u234 u235 u236 u237 u238 u239 u240 u241 u242 u243 u244 u245 u246 u247 u248 u249 u250 u251 u252 u253 u254 u255 u256 u257 u258 u259 u260 u261 u262 u263 u264 u265 u266 u267 u268 u269 u270 u271 u272 u273 u274 u275 u276 u277 u278 u279 u280 u281 u282 u283 u284 u285 u286 u287 u288 u289 u290 i pl hil hi hi' L hp0 frm ck ha1 hp1 Z3 Z4 Z5 w5 HFW5 gp hwp hwe hwr q HKR h1 hle hsz h3 hn0 hn1 Z6 Z7 Z8 Z9 hnp hwn HPC5 HLG HFS hne hev hez hez'
            exact HG1.out
        · have hrs : ¬ k.red < k.size := by omega
          have HEQ : Hid (k.red = k.size) := h3
          clear HFU h3
          rcases Int.lt_or_le 0 k.every with hev | hev
          · have hez : ¬ k.every = 0 := by omega
            rename_i Z0 Z1 Z2 Z3 Z4 Z5 Z6 Z7 Z8 Z9
            revert k b w Z0 w1 w2 gc w3 ok hb0 hb1 l hlen Z1 Z2 w4 gz wr u2 u12 u13 u14 u15 u16 u17 u54 u55 u56 u57 u58 u59 u60 u61 u62 u63 u64 u65 u66 u67 u68 u69 u70 u71 u72 u73 u74 u75 u76 u77 u78 u79 u80 u81 u82 u83 u84 u85 u86 u87 u88 u89 u90 u91 u92 u93 u94 u95 u96 u97 u98 u99 u100 u101 u102 u103 u104 u105 u106 u107 u108 u109 u110 u111 u112 u113 u114 u115 u116 u117 u118 u119 u120 u121 u122 u123 u124 u125 u126 u127 u128 u129 u130 u131 u132 u133 u134 u135 u136 u137 u138 u139 u140 u141 u142 u143 u144 u145 u146 u147 u148 u149 u150 u151 u152 u153 u154 u155 u156 u157 u158 u159 u160 u161 u162 u163 u164 u165 u166 u167 u168 u169 u170 u171 u172 u173 u174 u175 u176 u177 u178 u179 u180 u181 u182 u183 u184 u185 u186 u187 u188 u189 u190 u191 u192 u193 u194 u195 u196 u197 u198 u199 u200 u201 u202 u203 u204 u205 u206 u207 u208 u209 u210 u211 u212 u213 u214 u215 u216 u217 u218 u219 u220 u221 u222 u223 u224 u225 u226 u227 u228 u229 u230 u231 u232 u233 u234 u235 u236 u237 u238 u239 u240 u241 u242 u243 u244 u245 u246 u247 u248 u249 u250 u251 u252 u253 u254 u255 u256 u257 u258 u259 u260 u261 u262 u263 u264 u265 u266 u267 u268 u269 u270 u271 u272 u273 u274 u275 u276 u277 u278 u279 u280 u281 u282 u283 u284 u285 u286 u287 u288 u289 u290 i pl hil hi hi' L hp0 frm ck ha1 hp1 Z3 Z4 Z5 w5 HFW5 gp hwp hwe hwr q HKR h1 hle hsz hn0 hn1 Z6 Z7 Z8 Z9 hnp hwn HPC5 HLG HFS hrs HEQ hev hez
            exact HG2.out
          · have hez : (k.every == 0) = true := by have := ok.every; exact beq_iff_eq.mpr (by omega)
            have hez' : ¬ 0 < k.every := by omega
            rename_i Z0 Z1 Z2 Z3 Z4 Z5 Z6 Z7 Z8 Z9
            revert k b w Z0 w1 w2 gc w3 ok hb0 hb1 l hlen Z1 Z2 w4 gz wr u2 u12 u13 u14 u15 u16 u17 u54 u55 u56 u57 u58 u59 u60 u61 u62 u63 u64 u65 u66 u67 u68 u69 u70 u71 u72 u73 u74 u75 u76 u77 u78 u79 u80 u81 u82 u83 u84 u85 u86 u87 u88 u89 u90 u91 u92 u93 u94 u95 u96 u97 u98 u99 u100 u101 u102 u103 u104 u105 u106 u107 u108 u109 u110 u111 u112 u113 u114 u115 u116 u117 u118 u119 u120 u121 u122 u123 u124 u125 u126 u127 u128 u129 u130 u131 u132 u133 u134 u135 u136 u137 u138 u139 u140 u141 u142 u143 u144 u145 u146 u147 u148 u149 u150 u151 u152 u153 u154 u155 u156 u157 u158 u159 u160 u161 u162 u163 u164 u165 u166 u167 u168 u169 u170 u171 u172 u173 u174 u175 u176 u177 u178 u179 u180 u181 u182 u183 u184 u185 u186 u187 u188 u189 u190 u191 u192 u193 u194 u195 u196 u197 u198 u199 u200 u201 u202 u203 u204 u205 u206 u207 u208 u209 u210 u211 u212 u213 u214 u215 u216 u217 u218 u219 u220 u221 u222 u223 u224 u225 u226 u227 u228 u229 u230 u231 u232 u233 u234 u235 u236 u237 u238 u239 u240 u241 u242 u243 u244 u245 u246 u247 u248 u249 u250 u251 u252 u253 u254 u255 u256 u257 u258 u259 u260 u261 u262 u263 u264 u265 u266 u267 u268 u269 u270 u271 u272 u273 u274 u275 u276 u277 u278 u279 u280 u281 u282 u283 u284 u285 u286 u287 u288 u289 u290 i pl hil hi hi' L hp0 frm ck ha1 hp1 Z3 Z4 Z5 w5 HFW5 gp hwp hwe hwr q HKR h1 hle hsz hn0 hn1 Z6 Z7 Z8 Z9 hnp hwn HPC5 HLG HFS hrs HEQ hev hez hez'
            exact HG3.out
        · have hnr : ¬ k.red < tt := by omega
          have hne : ¬ tt = k.red := by omega
          have hne' : ¬ tt = k.size := by have := HKR.out; omega
          have hez : ¬ k.every = 0 := by omega
          have hq : q = true := by
            have := HKR.out
            rcases HFU.out with h | h | h | h
            · omega
            · omega
            · omega
            · exact h
          subst hq
          clear HFU
          rename_i Z0 Z1 Z2 Z3 Z4 Z5 Z6 Z7 Z8 Z9
          revert k b w Z0 w1 w2 gc w3 ok hb0 hb1 l hlen Z1 Z2 w4 gz wr u2 u12 u13 u14 u15 u16 u17 u54 u55 u56 u57 u58 u59 u60 u61 u62 u63 u64 u65 u66 u67 u68 u69 u70 u71 u72 u73 u74 u75 u76 u77 u78 u79 u80 u81 u82 u83 u84 u85 u86 u87 u88 u89 u90 u91 u92 u93 u94 u95 u96 u97 u98 u99 u100 u101 u102 u103 u104 u105 u106 u107 u108 u109 u110 u111 u112 u113 u114 u115 u116 u117 u118 u119 u120 u121 u122 u123 u124 u125 u126 u127 u128 u129 u130 u131 u132 u133 u134 u135 u136 u137 u138 u139 u140 u141 u142 u143 u144 u145 u146 u147 u148 u149 u150 u151 u152 u153 u154 u155 u156 u157 u158 u159 u160 u161 u162 u163 u164 u165 u166 u167 u168 u169 u170 u171 u172 u173 u174 u175 u176 u177 u178 u179 u180 u181 u182 u183 u184 u185 u186 u187 u188 u189 u190 u191 u192 u193 u194 u195 u196 u197 u198 u199 u200 u201 u202 u203 u204 u205 u206 u207 u208 u209 u210 u211 u212 u213 u214 u215 u216 u217 u218 u219 u220 u221 u222 u223 u224 u225 u226 u227 u228 u229 u230 u231 u232 u233 u234 u235 u236 u237 u238 u239 u240 u241 u242 u243 u244 u245 u246 u247 u248 u249 u250 u251 u252 u253 u254 u255 u256 u257 u258 u259 u260 u261 u262 u263 u264 u265 u266 u267 u268 u269 u270 u271 u272 u273 u274 u275 u276 u277 u278 u279 u280 u281 u282 u283 u284 u285 u286 u287 u288 u289 u290 i hil hi hi' L frm tt ck ha1 Z3 Z4 Z5 w5 HFW5 gp hle hsz hwe hwr HKR h1 h2 h4 hp0 hp1 hwp hn0 hn1 hnp hwn Z6 Z7 Z8 Z9 HPC5 HFS hnr hne hne' hez HLG
          exact HG4.out
        · have hnr : ¬ k.red < tt := by omega
          have hne : ¬ tt = k.red := by omega
          have hne' : ¬ tt = k.size := by have := HKR.out; omega
          rcases Int.lt_or_le 0 k.every with hev | hev
          · have hpe : ¬ k.every ≤ pl + 1 := by have := h6 hev; omega
            by_cases hr1 : tt = k.red - 1
            · subst hr1
              clear HFU
              rename_i Z0 Z1 Z2 Z3 Z4 Z5 Z6 Z7 Z8 Z9
              revert k b w Z0 w1 w2 gc w3 ok hb0 hb1 l hlen Z1 Z2 w4 gz wr u2 u12 u13 u14 u15 u16 u17 u54 u55 u56 u57 u58 u59 u60 u61 u62 u63 u64 u65 u66 u67 u68 u69 u70 u71 u72 u73 u74 u75 u76 u77 u78 u79 u80 u81 u82 u83 u84 u85 u86 u87 u88 u89 u90 u91 u92 u93 u94 u95 u96 u97 u98 u99 u100 u101 u102 u103 u104 u105 u106 u107 u108 u109 u110 u111 u112 u113 u114 u115 u116 u117 u118 u119 u120 u121 u122 u123 u124 u125 u126 u127 u128 u129 u130 u131 u132 u133 u134 u135 u136 u137 u138 u139 u140 u141 u142 u143 u144 u145 u146 u147 u148 u149 u150 u151 u152 u153 u154 u155 u156 u157 u158 u159 u160 u161 u162 u163 u164 u165 u166 u167 u168 u169 u170 u171 u172 u173 u174 u175 u176 u177 u178 u179 u180 u181 u182 u183 u184 u185 u186 u187 u188 u189 u190 u191 u192 u193 u194 u195 u196 u197 u198 u199 u200 u201 u202 u203 u204 u205 u206 u207 u208 u209 u210 u211 u212 u213 u214 u215 u216 u217 u218 u219 u220 u221 u222 u223 u224 u225 u226 u227 u228 u229 u230 u231 u232 u233 u234 u235 u236 u237 u238 u239 u240 u241 u242 u243 u244 u245 u246 u247 u248 u249 u250 u251 u252 u253 u254 u255 u256 u257 u258 u259 u260 u261 u262 u263 u264 u265 u266 u267 u268 u269 u270 u271 u272 u273 u274 u275 u276 u277 u278 u279 u280 u281 u282 u283 u284 u285 u286 u287 u288 u289 u290 i pl hil hi hi' L hp0 nx' frm ha1 hp1 Z3 Z4 Z5 w5 HFW5 gp hwp hwe hwr q HKR h1 h6 hn0 hn1 Z6 Z7 Z8 Z9 hnp hwn hev hpe hle hsz h2 HPC5 HLG HFS hnr hne hne'
              exact HG5.out
            · have hq : q = true := by
                have := HKR.out
                rcases HFU.out with h | h | h | h
                · omega
                · omega
                · omega
                · exact h
              subst hq
              clear HFU
              rename_i Z0 Z1 Z2 Z3 Z4 Z5 Z6 Z7 Z8 Z9
              revert k b w Z0 w1 w2 gc w3 ok hb0 hb1 l hlen Z1 Z2 w4 gz wr u2 u12 u13 u14 u15 u16 u17 u54 u55 u56 u57 u58 u59 u60 u61 u62 u63 u64 u65 u66 u67 u68 u69 u70 u71 u72 u73 u74 u75 u76 u77 u78 u79 u80 u81 u82 u83 u84 u85 u86 u87 u88 u89 u90 u91 u92 u93 u94 u95 u96 u97 u98 u99 u100 u101 u102 u103 u104 u105 u106 u107 u108 u109 u110 u111 u112 u113 u114 u115 u116 u117 u118 u119 u120 u121 u122 u123 u124 u125 u126 u127 u128 u129 u130 u131 u132 u133 u134 u135 u136 u137 u138 u139 u140 u141 u142 u143 u144 u145 u146 u147 u148 u149 u150 u151 u152 u153 u154 u155 u156 u157 u158 u159 u160 u161 u162 u163 u164 u165 u166 u167 u168 u169 u170 u171 u172 u173 u174 u175 u176 u177 u178 u179 u180 u181 u182 u183 u184 u185 u186 u187 u188 u189 u190 u191 u192 u193 u194 u195 u196 u197 u198 u199 u200 u201 u202 u203 u204 u205 u206 u207 u208 u209 u210 u211 u212 u213 u214 u215 u216 u217 u218 u219 u220 u221 u222 u223 u224 u225 u226 u227 u228 u229 u230 u231 u232 u233 u234 u235 u236 u237 u238 u239 u240 u241 u242 u243 u244 u245 u246 u247 u248 u249 u250 u251 u252 u253 u254 u255 u256 u257 u258 u259 u260 u261 u262 u263 u264 u265 u266 u267 u268 u269 u270 u271 u272 u273 u274 u275 u276 u277 u278 u279 u280 u281 u282 u283 u284 u285 u286 u287 u288 u289 u290 i pl hil hi hi' L hp0 nx' frm tt ha1 hp1 Z3 Z4 Z5 w5 HFW5 gp hle hsz hwp hwe hwr HKR h1 h2 HPC5 h6 hn0 hn1 Z6 Z7 Z8 Z9 hnp hwn HFS hnr hne hne' hev hpe hr1 HLG
              exact HG6.out
          · have hez' : ¬ 0 < k.every := by omega
            by_cases hr1 : tt = k.red - 1
            · subst hr1
              clear HFU
              rename_i Z0 Z1 Z2 Z3 Z4 Z5 Z6 Z7 Z8 Z9
              revert k b w Z0 w1 w2 gc w3 ok hb0 hb1 l hlen Z1 Z2 w4 gz wr u2 u12 u13 u14 u15 u16 u17 u54 u55 u56 u57 u58 u59 u60 u61 u62 u63 u64 u65 u66 u67 u68 u69 u70 u71 u72 u73 u74 u75 u76 u77 u78 u79 u80 u81 u82 u83 u84 u85 u86 u87 u88 u89 u90 u91 u92 u93 u94 u95 u96 u97 u98 u99 u100 u101 u102 u103 u104 u105 u106 u107 u108 u109 u110 u111 u112 u113 u114 u115 u116 u117 u118 u119 u120 u121 u122 u123 u124 u125 u126 u127 u128 u129 u130 u131 u132 u133 u134 u135 u136 u137 u138 u139 u140 u141 u142 u143 u144 u145 u146 u147 u148 u149 u150 u151 u152 u153 u154 u155 u156 u157 u158 u159 u160 u161 u162 u163 u164 u165 u166 u167 u168 u169 u170 u171 u172 u173 u174 u175 u176 u177 u178 u179 u180 u181 u182 u183 u184 u185 u186 u187 u188 u189 u190 u191 u192 u193 u194 u195 u196 u197 u198 u199 u200 u201 u202 u203 u204 u205 u206 u207 u208 u209 u210 u211 u212 u213 u214 u215 u216 u217 u218 u219 u220 u221 u222 u223 u224 u225 u226 u227 u228 u229 u230 u231 u232 u233 u234 u235 u236 u237 u238 u239 u240 u241 u242 u243 u244 u245 u246 u247 u248 u249 u250 u251 u252 u253 u254 u255 u256 u257 u258 u259 u260 u261 u262 u263 u264 u265 u266 u267 u268 u269 u270 u271 u272 u273 u274 u275 u276 u277 u278 u279 u280 u281 u282 u283 u284 u285 u286 u287 u288 u289 u290 i pl hil hi hi' L hp0 nx' frm ha1 hp1 Z3 Z4 Z5 w5 HFW5 gp hwp hwe hwr q HKR h1 h6 hn0 hn1 Z6 Z7 Z8 Z9 hnp hwn hev hez' hle hsz h2 HPC5 HLG HFS hnr hne hne'
              exact HG7.out
            · have hq : q = true := by
                have := HKR.out
                rcases HFU.out with h | h | h | h
                · omega
                · omega
                · omega
                · exact h
              subst hq
              clear HFU
              rename_i Z0 Z1 Z2 Z3 Z4 Z5 Z6 Z7 Z8 Z9
              revert k b w Z0 w1 w2 gc w3 ok hb0 hb1 l hlen Z1 Z2 w4 gz wr u2 u12 u13 u14 u15 u16 u17 u54 u55 u56 u57 u58 u59 u60 u61 u62 u63 u64 u65 u66 u67 u68 u69 u70 u71 u72 u73 u74 u75 u76 u77 u78 u79 u80 u81 u82 u83 u84 u85 u86 u87 u88 u89 u90 u91 u92 u93 u94 u95 u96 u97 u98 u99 u100 u101 u102 u103 u104 u105 u106 u107 u108 u109 u110 u111 u112 u113 u114 u115 u116 u117 u118 u119 u120 u121 u122 u123 u124 u125 u126 u127 u128 u129 u130 u131 u132 u133 u134 u135 u136 u137 u138 u139 u140 u141 u142 u143 u144 u145 u146 u147 u148 u149 u150 u151 u152 u153 u154 u155 u156 u157 u158 u159 u160 u161 u162 u163 u164 u165 u166 u167 u168 u169 u170 u171 u172 u173 u174 u175 u176 u177 u178 u179 u180 u181 u182 u183 u184 u185 u186 u187 u188 u189 u190 u191 u192 u193 u194 u195 u196 u197 u198 u199 u200 u201 u202 u203 u204 u205 u206 u207 u208 u209 u210 u211 u212 u213 u214 u215 u216 u217 u218 u219 u220 u221 u222 u223 u224 u225 u226 u227 u228 u229 u230 u231 u232 u233 u234 u235 u236 u237 u238 u239 u240 u241 u242 u243 u244 u245 u246 u247 u248 u249 u250 u251 u252 u253 u254 u255 u256 u257 u258 u259 u260 u261 u262 u263 u264 u265 u266 u267 u268 u269 u270 u271 u272 u273 u274 u275 u276 u277 u278 u279 u280 u281 u282 u283 u284 u285 u286 u287 u288 u289 u290 i pl hil hi hi' L hp0 nx' frm tt ha1 hp1 Z3 Z4 Z5 w5 HFW5 gp hle hsz hwp hwe hwr HKR h1 h2 HPC5 h6 hn0 hn1 Z6 Z7 Z8 Z9 hnp hwn HFS hnr hne hne' hev hez' hr1 HLG
              exact HG8.out
        · have hnr : ¬ frm < k.red := by omega
          have hne : ¬ k.size = k.red := by omega
          clear HFU
          rename_i Z0 Z1 Z2 Z3 Z4 Z5 Z6 Z7 Z8 Z9
          revert k b w Z0 w1 w2 gc w3 ok hb0 hb1 l hlen Z1 Z2 w4 gz wr u2 u12 u13 u14 u15 u16 u17 u54 u55 u56 u57 u58 u59 u60 u61 u62 u63 u64 u65 u66 u67 u68 u69 u70 u71 u72 u73 u74 u75 u76 u77 u78 u79 u80 u81 u82 u83 u84 u85 u86 u87 u88 u89 u90 u91 u92 u93 u94 u95 u96 u97 u98 u99 u100 u101 u102 u103 u104 u105 u106 u107 u108 u109 u110 u111 u112 u113 u114 u115 u116 u117 u118 u119 u120 u121 u122 u123 u124 u125 u126 u127 u128 u129 u130 u131 u132 u133 u134 u135 u136 u137 u138 u139 u140 u141 u142 u143 u144 u145 u146 u147 u148 u149 u150 u151 u152 u153 u154 u155 u156 u157 u158 u159 u160 u161 u162 u163 u164 u165 u166 u167 u168 u169 u170 u171 u172 u173 u174 u175 u176 u177 u178 u179 u180 u181 u182 u183 u184 u185 u186 u187 u188 u189 u190 u191 u192 u193 u194 u195 u196 u197 u198 u199 u200 u201 u202 u203 u204 u205 u206 u207 u208 u209 u210 u211 u212 u213 u214 u215 u216 u217 u218 u219 u220 u221 u222 u223 u224 u225 u226 u227 u228 u229 u230 u231 u232 u233 u234 u235 u236 u237 u238 u239 u240 u241 u242 u243 u244 u245 u246 u247 u248 u249 u250 u251 u252 u253 u254 u255 u256 u257 u258 u259 u260 u261 u262 u263 u264 u265 u266 u267 u268 u269 u270 u271 u272 u273 u274 u275 u276 u277 u278 u279 u280 u281 u282 u283 u284 u285 u286 u287 u288 u289 u290 i hil hi hi' L nx' pl' frm ha1 Z3 Z4 Z5 w5 HFW5 gp hwe hwr q HKR h1 HFS hle hsz HPC5 HLG hn0 hn1 hnp hwn hp0 hp1 hwp Z6 Z7 Z8 Z9 hnr hne
          exact HG9.out
        · have hnr : ¬ frm < k.red := by omega
          have hne : ¬ tt = k.red := by omega
          have hne' : ¬ tt = k.size := by omega
          have hne2 : (tt == k.size) = false := by rw [beq_eq_false_iff_ne]; omega
          have hq : q = true := by
            have := HKR.out
            rcases HFU.out with h | h | h | h
            · omega
            · omega
            · omega
            · exact h
          subst hq
          clear HFU
          rename_i Z0 Z1 Z2 Z3 Z4 Z5 Z6 Z7 Z8 Z9
          revert k b w Z0 w1 w2 gc w3 ok hb0 hb1 l hlen Z1 Z2 w4 gz wr u2 u12 u13 u14 u15 u16 u17 u54 u55 u56 u57 u58 u59 u60 u61 u62 u63 u64 u65 u66 u67 u68 u69 u70 u71 u72 u73 u74 u75 u76 u77 u78 u79 u80 u81 u82 u83 u84 u85 u86 u87 u88 u89 u90 u91 u92 u93 u94 u95 u96 u97 u98 u99 u100 u101 u102 u103 u104 u105 u106 u107 u108 u109 u110 u111 u112 u113 u114 u115 u116 u117 u118 u119 u120 u121 u122 u123 u124 u125 u126 u127 u128 u129 u130 u131 u132 u133 u134 u135 u136 u137 u138 u139 u140 u141 u142 u143 u144 u145 u146 u147 u148 u149 u150 u151 u152 u153 u154 u155 u156 u157 u158 u159 u160 u161 u162 u163 u164 u165 u166 u167 u168 u169 u170 u171 u172 u173 u174 u175 u176 u177 u178 u179 u180 u181 u182 u183 u184 u185 u186 u187 u188 u189 u190 u191 u192 u193 u194 u195 u196 u197 u198 u199 u200 u201 u202 u203 u204 u205 u206 u207 u208 u209 u210 u211 u212 u213 u214 u215 u216 u217 u218 u219 u220 u221 u222 u223 u224 u225 u226 u227 u228 u229 u230 u231 u232 u233 u234 u235 u236 u237 u238 u239 u240 u241 u242 u243 u244 u245 u246 u247 u248 u249 u250 u251 u252 u253 u254 u255 u256 u257 u258 u259 u260 u261 u262 u263 u264 u265 u266 u267 u268 u269 u270 u271 u272 u273 u274 u275 u276 u277 u278 u279 u280 u281 u282 u283 u284 u285 u286 u287 u288 u289 u290 i hil hi hi' L nx' pl' frm tt ha1 HFS Z3 Z4 Z5 w5 HFW5 gp hle hsz hwe hwr HKR h1 h2 HPC5 hn0 hn1 hnp hwn hp0 hp1 hwp Z6 Z7 Z8 Z9 hnr hne hne' hne2 HLG
          exact HG10.out
      · have hi' : ¬ (i : Int) < (l.length : Int) := by omega
        have he : i = l.length := by omega
        subst he
        rw [List.drop_length] at hfs
        have hak := hfs.done
        subst hak
        have HFW : Hid (FW k b l (.slice ga l.length gc) w w1.heap.size gz wr) := hfw
        obtain ⟨a0, a1, a2, a3, a4, a5, a6, a7⟩ := ak_cells hfw.ask
        clear hfs hfw
        go_wp2
        go_ret
        exact ⟨rfl, HFW.out.bel⟩
end Go.Proofs.YtfghdhikjhbbgadDoor
