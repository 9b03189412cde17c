import Derived.Test.YtillgoegiplmkaaGreatDoorTbMp
import Derived.Test.YtillgoegiplmkaaGreatDoorTbMw
import Derived.BigQuiet
import Derived.Deep.CutBlock
import Derived.Test.YtillgoegiplmkaaGreatDoorRcPrt
import Derived.WalkSmall
namespace Go.Proofs.YtillgoegiplmkaaGreatDoor.B
open C
open Go.RowKit
set_option linter.unusedVariables false
set_option linter.unusedSimpArgs false

def Lp8 (Z : World) (N : Nat) (v : Value) (w : World) : Prop := ∃ p nd : Nat, v = .int .i64 p ∧ p ≤ N ∧ w = Z.drewN nd
theorem lp8 {Z : World} {N p nd : Nat} {v : Value} (hv : v = .int .i64 p) (h : p ≤ N) : Lp8 Z N v (Z.drewN nd) := ⟨p, nd, hv, h, rfl⟩
theorem spa_drewN {w : World} {a : Option Addr} {l : List Sp} (h : Spa w a l) (n : Nat) : Spa (w.drewN n) a l := h
theorem below_dr {w : World} (n : Nat) : Below w.heap.size w (w.drewN n) := ⟨rfl, rfl, rfl, Nat.le_refl _, fun _ _ => rfl⟩

set_option maxHeartbeats 4000000 in
set_option maxRecDepth 100000 in
/-- SAME SPANS of the document's table, of two lists that say the same. -/
theorem sameSpans8_eq (a b : Option Addr) (c d n : Nat) (l : List Sp) (w : World) (hn : l.length = n) (hm : n ≤ 4611686018427387903) (h : Spa w a l) (h' : Spa w b l) :
    Calls Tryz.prog 60 #[.slice a n c, .slice b n d] w fun e w' => e = .returned (.bool true) ∧ ∃ nd, w' = w.drewN nd := by
  have HN : Hid (l.length = n) := hn
  have HS : Hid (Spa w a l) := h
  have HS' : Hid (Spa w b l) := h'
  clear hn h h'
  go_enter Tryz.func60, Tryz.ntmps60
  obtain ⟨Z, hZ⟩ : ∃ Z, w = Z := ⟨_, rfl⟩
  rw [hZ] at HS HS' ⊢
  clear hZ
  go_wp2_with fail
  go_loopw [5] (fun v wr => Lp8 Z n v wr) (fun v _ => n - (intOf v).toNat)
  case atStart => exact lp8 (nd := 0) (p := 0) rfl (by omega)
  case round =>
    obtain ⟨k, nd, rfl, hk, hwr⟩ := hrel
    have HW : Hid (wr = Z.drewN nd) := hwr
    have HA : Hid (Spa wr a l) := by show Spa _ _ _; rw [hwr]; exact spa_drewN HS.out _
    have HA' : Hid (Spa wr b l) := by show Spa _ _ _; rw [hwr]; exact spa_drewN HS'.out _
    clear hwr
    by_cases hlt : k = n
    · subst hlt
      have hz : ¬ (k : Int) < (k : Int) := by omega
      go_wp2
      go_ret
      exact ⟨rfl, _, HW.out⟩
    · have hlt' : (k : Int) < (n : Int) := by omega
      have hwk : IntKind.i64.wrap ((k : Int) + 1) = (k : Int) + 1 := by rw [IntKind.wrap_i64]; omega
      obtain ⟨⟨p1, p2⟩, hp⟩ : ∃ p, l[k]? = some p := ⟨_, List.getElem?_eq_getElem (by rw [HN.out]; omega)⟩
      obtain ⟨g, off, rfl, q1, q2⟩ := HA.out.at hp
      obtain ⟨g', off', rfl, r1, r2⟩ := HA'.out.at hp
      simp only at q1 q2 r1 r2
      clear hp
      go_wp2_with fail
      go_quiet (fail)
      go_wp2
      exact ⟨by rw [HW.out, World.drewN_drewN]; exact lp8 (p := k + 1) (by simp) (by omega), by simp [intOf]; omega⟩
theorem conv8 (W : World) (a : Option Addr) (n cap : Nat) (xs : List Int) (hl : xs.length = n) (hc : Lies .u8 W a xs) :
    (convert 33 9 (.slice a n cap)).run Tryz.prog W = .ok (.string (strOfNums xs)) W := by
  rcases hc with rfl | ⟨b, off, rfl, h⟩
  · obtain rfl : n = 0 := by simpa using hl.symm
    cases a with
    | none => exact run_convert_bytes_nil (P := Tryz.prog) W 33 5 Tryz.underlying33 Tryz.underlying5 0 cap 9 Tryz.underlying9
    | some x =>
      have hl0 := run_loadCells_list (P := Tryz.prog) W x ([].map (Value.int .u8)) (fun j v hj => by simp at hj)
      rw [run_convert_bytes_string W 33 9 5 _ 0 cap Tryz.underlying33 Tryz.underlying5 Tryz.underlying9, run_bytesToString W x 0 cap [] hl0]
      rfl
  · exact run_convert_bytes_arg (P := Tryz.prog) W 33 5 Tryz.underlying33 Tryz.underlying5 b off n cap xs hl (fun i hi => h i (by omega)) 9 Tryz.underlying9
set_option maxRecDepth 100000 in
set_option maxHeartbeats 8000000 in
theorem sameOut8_eq (o : Og) (av bv : Option Addr) (nv cv dv : Nat) (w : World) (hl : o.data.length = nv) (ha : Lies .u8 w av o.data) (hb : Lies .u8 w bv o.data) (hss : sW (o.s)) :
    Calls Tryz.prog 67 #[.agg #[.int .i64 o.org, .int .i64 o.num, .int .i64 o.peer, .int .i64 o.srv, .int .i64 o.red, .int .i64 o.size, .slice av nv cv, .bool o.ended, .int .i64 o.how], .agg #[.int .i64 o.org, .int .i64 o.num, .int .i64 o.peer, .int .i64 o.srv, .int .i64 o.red, .int .i64 o.size, .slice bv nv dv, .bool o.ended, .int .i64 o.how]] w fun e w' => e = .returned (.bool true) ∧ Below w.heap.size w w' := by
  obtain ⟨V, hV⟩ : ∃ V, (w.alloc (.cells #[.int .i64 o.org, .int .i64 o.num, .int .i64 o.peer, .int .i64 o.srv, .int .i64 o.red, .int .i64 o.size, .slice av nv cv, .bool o.ended, .int .i64 o.how] 110)).alloc (.cells #[.int .i64 o.org, .int .i64 o.num, .int .i64 o.peer, .int .i64 o.srv, .int .i64 o.red, .int .i64 o.size, .slice bv nv dv, .bool o.ended, .int .i64 o.how] 110) = V := ⟨_, rfl⟩
  have HV : Hid ((w.alloc (.cells #[.int .i64 o.org, .int .i64 o.num, .int .i64 o.peer, .int .i64 o.srv, .int .i64 o.red, .int .i64 o.size, .slice av nv cv, .bool o.ended, .int .i64 o.how] 110)).alloc (.cells #[.int .i64 o.org, .int .i64 o.num, .int .i64 o.peer, .int .i64 o.srv, .int .i64 o.red, .int .i64 o.size, .slice bv nv dv, .bool o.ended, .int .i64 o.how] 110) = V) := hV
  have hbV : Below w.heap.size w V := by rw [← hV]; exact ((Below.refl _ _).alloc (Nat.le_refl _) _).alloc (by simp) _
  have hx1 : V.heap[w.heap.size]? = some (.cells #[.int .i64 o.org, .int .i64 o.num, .int .i64 o.peer, .int .i64 o.srv, .int .i64 o.red, .int .i64 o.size, .slice av nv cv, .bool o.ended, .int .i64 o.how] 110) := by rw [← hV]; exact (Below.heap_alloc _ _ _ (by simp)).trans (heap_alloc_new' w _)
  have hx2 : V.heap[w.heap.size + 1]? = some (.cells #[.int .i64 o.org, .int .i64 o.num, .int .i64 o.peer, .int .i64 o.srv, .int .i64 o.red, .int .i64 o.size, .slice bv nv dv, .bool o.ended, .int .i64 o.how] 110) := by rw [← hV]; have := heap_alloc_new' (w.alloc (.cells #[.int .i64 o.org, .int .i64 o.num, .int .i64 o.peer, .int .i64 o.srv, .int .i64 o.red, .int .i64 o.size, .slice av nv cv, .bool o.ended, .int .i64 o.how] 110)) (.cells #[.int .i64 o.org, .int .i64 o.num, .int .i64 o.peer, .int .i64 o.srv, .int .i64 o.red, .int .i64 o.size, .slice bv nv dv, .bool o.ended, .int .i64 o.how] 110); rwa [World.size_alloc] at this
  have HX : Hid (∀ nd, (V.drewN nd).cell? ⟨w.heap.size, 0, none⟩ = some (.int .i64 o.org) ∧ (V.drewN nd).cell? ⟨w.heap.size, 1, none⟩ = some (.int .i64 o.num) ∧ (V.drewN nd).cell? ⟨w.heap.size, 2, none⟩ = some (.int .i64 o.peer) ∧ (V.drewN nd).cell? ⟨w.heap.size, 3, none⟩ = some (.int .i64 o.srv) ∧ (V.drewN nd).cell? ⟨w.heap.size, 4, none⟩ = some (.int .i64 o.red) ∧ (V.drewN nd).cell? ⟨w.heap.size, 5, none⟩ = some (.int .i64 o.size) ∧ (V.drewN nd).cell? ⟨w.heap.size, 6, none⟩ = some (.slice av nv cv) ∧ (V.drewN nd).cell? ⟨w.heap.size, 7, none⟩ = some (.bool o.ended) ∧ (V.drewN nd).cell? ⟨w.heap.size, 8, none⟩ = some (.int .i64 o.how) ∧ (V.drewN nd).cell? ⟨w.heap.size + 1, 0, none⟩ = some (.int .i64 o.org) ∧ (V.drewN nd).cell? ⟨w.heap.size + 1, 1, none⟩ = some (.int .i64 o.num) ∧ (V.drewN nd).cell? ⟨w.heap.size + 1, 2, none⟩ = some (.int .i64 o.peer) ∧ (V.drewN nd).cell? ⟨w.heap.size + 1, 3, none⟩ = some (.int .i64 o.srv) ∧ (V.drewN nd).cell? ⟨w.heap.size + 1, 4, none⟩ = some (.int .i64 o.red) ∧ (V.drewN nd).cell? ⟨w.heap.size + 1, 5, none⟩ = some (.int .i64 o.size) ∧ (V.drewN nd).cell? ⟨w.heap.size + 1, 6, none⟩ = some (.slice bv nv dv) ∧ (V.drewN nd).cell? ⟨w.heap.size + 1, 7, none⟩ = some (.bool o.ended) ∧ (V.drewN nd).cell? ⟨w.heap.size + 1, 8, none⟩ = some (.int .i64 o.how)) := fun nd => by
    refine ⟨?_, ?_, ?_, ?_, ?_, ?_, ?_, ?_, ?_, ?_, ?_, ?_, ?_, ?_, ?_, ?_, ?_, ?_⟩ <;> first | exact (cell_of_row _ _ _ _ _ _ (show (V.drewN nd).heap[w.heap.size]? = _ from hx1)).trans rfl | exact (cell_of_row _ _ _ _ _ _ (show (V.drewN nd).heap[w.heap.size + 1]? = _ from hx2)).trans rfl
  have HK : Hid (∀ nd, (convert 33 9 (.slice av nv cv)).run Tryz.prog (V.drewN nd) = .ok (.string (strOfNums o.data)) (V.drewN nd) ∧ (convert 33 9 (.slice bv nv dv)).run Tryz.prog (V.drewN nd) = .ok (.string (strOfNums o.data)) (V.drewN nd)) := fun nd => ⟨conv8 _ _ _ _ _ hl (ha.below (hbV.trans ((below_dr nd).mono hbV.size))), conv8 _ _ _ _ _ hl (hb.below (hbV.trans ((below_dr nd).mono hbV.size)))⟩
  have HB : Hid (∀ nd, Below w.heap.size w (V.drewN nd)) := fun nd => hbV.trans ((below_dr nd).mono hbV.size)
  have heq := fun W => eql_s hss hss W
  have hgd := eqGuardS
  simp only [sA, decide_true] at heq
  generalize strOfNums o.data = S at *
  have hX0 := HX.out 0
  have hK0 := HK.out 0
  simp only [World.drewN_zero] at hX0 hK0
  obtain ⟨p0, p1, p2, p3, p4, p5, p6, p7, p8, q0, q1, q2, q3, q4, q5, q6, q7, q8⟩ := hX0
  obtain ⟨k1, k2⟩ := hK0
  clear hV hbV hx1 hx2 ha hb hl hss
  go_enter Tryz.func67, Tryz.ntmps67
  go_upto_region 1 with fail
  rw [HV.out]
  try simp only [List.append_eq, List.cons_append, List.nil_append]
  go_wp2
  go_ret
  exact ⟨rfl, HB.out 0⟩
set_option maxRecDepth 100000 in
set_option maxHeartbeats 8000000 in
theorem sameIn8_eq (i : Ic) (au bu : Option Addr) (nu cu du : Nat) (av bv : Option Addr) (nv cv dv : Nat) (w : World) (hu : i.hv.length = nu) (hum : nu ≤ 4611686018427387903) (hs : Spa w au i.hv) (hs2 : Spa w bu i.hv) (hl : i.data.length = nv) (ha : Lies .u8 w av i.data) (hb : Lies .u8 w bv i.data) (hss : sW (i.s)) :
    Calls Tryz.prog 68 #[.agg #[.int .i64 i.org, .int .i64 i.num, .int .i64 i.srv, .int .i64 i.red, .int .i64 i.size, .slice au nu cu, .slice av nv cv, .bool i.done, .bool i.gone, .bool i.heard, .bool i.shut, .int .i64 i.how], .agg #[.int .i64 i.org, .int .i64 i.num, .int .i64 i.srv, .int .i64 i.red, .int .i64 i.size, .slice bu nu du, .slice bv nv dv, .bool i.done, .bool i.gone, .bool i.heard, .bool i.shut, .int .i64 i.how]] w fun e w' => e = .returned (.bool true) ∧ Below w.heap.size w w' := by
  obtain ⟨V, hV⟩ : ∃ V, (w.alloc (.cells #[.int .i64 i.org, .int .i64 i.num, .int .i64 i.srv, .int .i64 i.red, .int .i64 i.size, .slice au nu cu, .slice av nv cv, .bool i.done, .bool i.gone, .bool i.heard, .bool i.shut, .int .i64 i.how] 63)).alloc (.cells #[.int .i64 i.org, .int .i64 i.num, .int .i64 i.srv, .int .i64 i.red, .int .i64 i.size, .slice bu nu du, .slice bv nv dv, .bool i.done, .bool i.gone, .bool i.heard, .bool i.shut, .int .i64 i.how] 63) = V := ⟨_, rfl⟩
  have HV : Hid ((w.alloc (.cells #[.int .i64 i.org, .int .i64 i.num, .int .i64 i.srv, .int .i64 i.red, .int .i64 i.size, .slice au nu cu, .slice av nv cv, .bool i.done, .bool i.gone, .bool i.heard, .bool i.shut, .int .i64 i.how] 63)).alloc (.cells #[.int .i64 i.org, .int .i64 i.num, .int .i64 i.srv, .int .i64 i.red, .int .i64 i.size, .slice bu nu du, .slice bv nv dv, .bool i.done, .bool i.gone, .bool i.heard, .bool i.shut, .int .i64 i.how] 63) = V) := hV
  have hbV : Below w.heap.size w V := by rw [← hV]; exact ((Below.refl _ _).alloc (Nat.le_refl _) _).alloc (by simp) _
  have hx1 : V.heap[w.heap.size]? = some (.cells #[.int .i64 i.org, .int .i64 i.num, .int .i64 i.srv, .int .i64 i.red, .int .i64 i.size, .slice au nu cu, .slice av nv cv, .bool i.done, .bool i.gone, .bool i.heard, .bool i.shut, .int .i64 i.how] 63) := by rw [← hV]; exact (Below.heap_alloc _ _ _ (by simp)).trans (heap_alloc_new' w _)
  have hx2 : V.heap[w.heap.size + 1]? = some (.cells #[.int .i64 i.org, .int .i64 i.num, .int .i64 i.srv, .int .i64 i.red, .int .i64 i.size, .slice bu nu du, .slice bv nv dv, .bool i.done, .bool i.gone, .bool i.heard, .bool i.shut, .int .i64 i.how] 63) := by rw [← hV]; have := heap_alloc_new' (w.alloc (.cells #[.int .i64 i.org, .int .i64 i.num, .int .i64 i.srv, .int .i64 i.red, .int .i64 i.size, .slice au nu cu, .slice av nv cv, .bool i.done, .bool i.gone, .bool i.heard, .bool i.shut, .int .i64 i.how] 63)) (.cells #[.int .i64 i.org, .int .i64 i.num, .int .i64 i.srv, .int .i64 i.red, .int .i64 i.size, .slice bu nu du, .slice bv nv dv, .bool i.done, .bool i.gone, .bool i.heard, .bool i.shut, .int .i64 i.how] 63); rwa [World.size_alloc] at this
  have HX : Hid (∀ nd, (V.drewN nd).cell? ⟨w.heap.size, 0, none⟩ = some (.int .i64 i.org) ∧ (V.drewN nd).cell? ⟨w.heap.size, 1, none⟩ = some (.int .i64 i.num) ∧ (V.drewN nd).cell? ⟨w.heap.size, 2, none⟩ = some (.int .i64 i.srv) ∧ (V.drewN nd).cell? ⟨w.heap.size, 3, none⟩ = some (.int .i64 i.red) ∧ (V.drewN nd).cell? ⟨w.heap.size, 4, none⟩ = some (.int .i64 i.size) ∧ (V.drewN nd).cell? ⟨w.heap.size, 5, none⟩ = some (.slice au nu cu) ∧ (V.drewN nd).cell? ⟨w.heap.size, 6, none⟩ = some (.slice av nv cv) ∧ (V.drewN nd).cell? ⟨w.heap.size, 7, none⟩ = some (.bool i.done) ∧ (V.drewN nd).cell? ⟨w.heap.size, 8, none⟩ = some (.bool i.gone) ∧ (V.drewN nd).cell? ⟨w.heap.size, 9, none⟩ = some (.bool i.heard) ∧ (V.drewN nd).cell? ⟨w.heap.size, 10, none⟩ = some (.bool i.shut) ∧ (V.drewN nd).cell? ⟨w.heap.size, 11, none⟩ = some (.int .i64 i.how) ∧ (V.drewN nd).cell? ⟨w.heap.size + 1, 0, none⟩ = some (.int .i64 i.org) ∧ (V.drewN nd).cell? ⟨w.heap.size + 1, 1, none⟩ = some (.int .i64 i.num) ∧ (V.drewN nd).cell? ⟨w.heap.size + 1, 2, none⟩ = some (.int .i64 i.srv) ∧ (V.drewN nd).cell? ⟨w.heap.size + 1, 3, none⟩ = some (.int .i64 i.red) ∧ (V.drewN nd).cell? ⟨w.heap.size + 1, 4, none⟩ = some (.int .i64 i.size) ∧ (V.drewN nd).cell? ⟨w.heap.size + 1, 5, none⟩ = some (.slice bu nu du) ∧ (V.drewN nd).cell? ⟨w.heap.size + 1, 6, none⟩ = some (.slice bv nv dv) ∧ (V.drewN nd).cell? ⟨w.heap.size + 1, 7, none⟩ = some (.bool i.done) ∧ (V.drewN nd).cell? ⟨w.heap.size + 1, 8, none⟩ = some (.bool i.gone) ∧ (V.drewN nd).cell? ⟨w.heap.size + 1, 9, none⟩ = some (.bool i.heard) ∧ (V.drewN nd).cell? ⟨w.heap.size + 1, 10, none⟩ = some (.bool i.shut) ∧ (V.drewN nd).cell? ⟨w.heap.size + 1, 11, none⟩ = some (.int .i64 i.how)) := fun nd => by
    refine ⟨?_, ?_, ?_, ?_, ?_, ?_, ?_, ?_, ?_, ?_, ?_, ?_, ?_, ?_, ?_, ?_, ?_, ?_, ?_, ?_, ?_, ?_, ?_, ?_⟩ <;> first | exact (cell_of_row _ _ _ _ _ _ (show (V.drewN nd).heap[w.heap.size]? = _ from hx1)).trans rfl | exact (cell_of_row _ _ _ _ _ _ (show (V.drewN nd).heap[w.heap.size + 1]? = _ from hx2)).trans rfl
  have HK : Hid (∀ nd, (convert 33 9 (.slice av nv cv)).run Tryz.prog (V.drewN nd) = .ok (.string (strOfNums i.data)) (V.drewN nd) ∧ (convert 33 9 (.slice bv nv dv)).run Tryz.prog (V.drewN nd) = .ok (.string (strOfNums i.data)) (V.drewN nd)) := fun nd => ⟨conv8 _ _ _ _ _ hl (ha.below (hbV.trans ((below_dr nd).mono hbV.size))), conv8 _ _ _ _ _ hl (hb.below (hbV.trans ((below_dr nd).mono hbV.size)))⟩
  have HSp : Hid (Calls Tryz.prog 60 #[.slice au nu cu, .slice bu nu du] V fun e w' => e = .returned (.bool true) ∧ ∃ nd, w' = V.drewN nd) := sameSpans8_eq au bu cu du nu _ V hu hum (hs.below hbV) (hs2.below hbV)
  have HB : Hid (∀ nd, Below w.heap.size w (V.drewN nd)) := fun nd => hbV.trans ((below_dr nd).mono hbV.size)
  have heq := fun W => eql_s hss hss W
  have hgd := eqGuardS
  simp only [sA, decide_true] at heq
  generalize strOfNums i.data = S at *
  have hX0 := HX.out 0
  have hK0 := HK.out 0
  simp only [World.drewN_zero] at hX0 hK0
  obtain ⟨p0, p1, p2, p3, p4, p5, p6, p7, p8, p9, p10, p11, q0, q1, q2, q3, q4, q5, q6, q7, q8, q9, q10, q11⟩ := hX0
  obtain ⟨k1, k2⟩ := hK0
  clear hV hbV hx1 hx2 ha hb hl hs hs2 hu hss
  go_enter Tryz.func68, Tryz.ntmps68
  go_upto_region 1 with fail
  rw [HV.out]
  try simp only [List.append_eq, List.cons_append, List.nil_append]
  go_wp2_with (go_at_call 60; refine HSp.out.mono ?_; rintro e w2 ⟨rfl, nd, rfl⟩; obtain ⟨r0, r1, r2, r3, r4, r5, r6, r7, r8, r9, r10, r11, s0, s1, s2, s3, s4, s5, s6, s7, s8, s9, s10, s11⟩ := HX.out nd; obtain ⟨k3, k4⟩ := HK.out nd)
  go_ret
  exact ⟨rfl, HB.out nd⟩
set_option maxRecDepth 100000 in
set_option maxHeartbeats 8000000 in
theorem sameRecord8_eq (r : Rc) (au bu : Option Addr) (nu cu du : Nat) (av bv : Option Addr) (nv cv dv : Nat) (w : World) (hu : r.spans.length = nu) (hum : nu ≤ 4611686018427387903) (hs : Spa w au r.spans) (hs2 : Spa w bu r.spans) (hl : r.data.length = nv) (ha : Lies .u8 w av r.data) (hb : Lies .u8 w bv r.data) (hss : sW (sR r)) :
    Calls Tryz.prog 24 #[.agg #[.int .i64 r.kind, .int .i64 r.org, .int .i64 r.num, .int .i64 r.peer, .int .i64 r.srv, .int .i64 r.off, .int .i64 r.red, .int .i64 r.size, .int .i64 r.how, .slice au nu cu, .slice av nv cv], .agg #[.int .i64 r.kind, .int .i64 r.org, .int .i64 r.num, .int .i64 r.peer, .int .i64 r.srv, .int .i64 r.off, .int .i64 r.red, .int .i64 r.size, .int .i64 r.how, .slice bu nu du, .slice bv nv dv]] w fun e w' => e = .returned (.bool true) ∧ Below w.heap.size w w' := by
  obtain ⟨V, hV⟩ : ∃ V, (w.alloc (.cells #[.int .i64 r.kind, .int .i64 r.org, .int .i64 r.num, .int .i64 r.peer, .int .i64 r.srv, .int .i64 r.off, .int .i64 r.red, .int .i64 r.size, .int .i64 r.how, .slice au nu cu, .slice av nv cv] 35)).alloc (.cells #[.int .i64 r.kind, .int .i64 r.org, .int .i64 r.num, .int .i64 r.peer, .int .i64 r.srv, .int .i64 r.off, .int .i64 r.red, .int .i64 r.size, .int .i64 r.how, .slice bu nu du, .slice bv nv dv] 35) = V := ⟨_, rfl⟩
  have HV : Hid ((w.alloc (.cells #[.int .i64 r.kind, .int .i64 r.org, .int .i64 r.num, .int .i64 r.peer, .int .i64 r.srv, .int .i64 r.off, .int .i64 r.red, .int .i64 r.size, .int .i64 r.how, .slice au nu cu, .slice av nv cv] 35)).alloc (.cells #[.int .i64 r.kind, .int .i64 r.org, .int .i64 r.num, .int .i64 r.peer, .int .i64 r.srv, .int .i64 r.off, .int .i64 r.red, .int .i64 r.size, .int .i64 r.how, .slice bu nu du, .slice bv nv dv] 35) = V) := hV
  have hbV : Below w.heap.size w V := by rw [← hV]; exact ((Below.refl _ _).alloc (Nat.le_refl _) _).alloc (by simp) _
  have hx1 : V.heap[w.heap.size]? = some (.cells #[.int .i64 r.kind, .int .i64 r.org, .int .i64 r.num, .int .i64 r.peer, .int .i64 r.srv, .int .i64 r.off, .int .i64 r.red, .int .i64 r.size, .int .i64 r.how, .slice au nu cu, .slice av nv cv] 35) := by rw [← hV]; exact (Below.heap_alloc _ _ _ (by simp)).trans (heap_alloc_new' w _)
  have hx2 : V.heap[w.heap.size + 1]? = some (.cells #[.int .i64 r.kind, .int .i64 r.org, .int .i64 r.num, .int .i64 r.peer, .int .i64 r.srv, .int .i64 r.off, .int .i64 r.red, .int .i64 r.size, .int .i64 r.how, .slice bu nu du, .slice bv nv dv] 35) := by rw [← hV]; have := heap_alloc_new' (w.alloc (.cells #[.int .i64 r.kind, .int .i64 r.org, .int .i64 r.num, .int .i64 r.peer, .int .i64 r.srv, .int .i64 r.off, .int .i64 r.red, .int .i64 r.size, .int .i64 r.how, .slice au nu cu, .slice av nv cv] 35)) (.cells #[.int .i64 r.kind, .int .i64 r.org, .int .i64 r.num, .int .i64 r.peer, .int .i64 r.srv, .int .i64 r.off, .int .i64 r.red, .int .i64 r.size, .int .i64 r.how, .slice bu nu du, .slice bv nv dv] 35); rwa [World.size_alloc] at this
  have HX : Hid (∀ nd, (V.drewN nd).cell? ⟨w.heap.size, 0, none⟩ = some (.int .i64 r.kind) ∧ (V.drewN nd).cell? ⟨w.heap.size, 1, none⟩ = some (.int .i64 r.org) ∧ (V.drewN nd).cell? ⟨w.heap.size, 2, none⟩ = some (.int .i64 r.num) ∧ (V.drewN nd).cell? ⟨w.heap.size, 3, none⟩ = some (.int .i64 r.peer) ∧ (V.drewN nd).cell? ⟨w.heap.size, 4, none⟩ = some (.int .i64 r.srv) ∧ (V.drewN nd).cell? ⟨w.heap.size, 5, none⟩ = some (.int .i64 r.off) ∧ (V.drewN nd).cell? ⟨w.heap.size, 6, none⟩ = some (.int .i64 r.red) ∧ (V.drewN nd).cell? ⟨w.heap.size, 7, none⟩ = some (.int .i64 r.size) ∧ (V.drewN nd).cell? ⟨w.heap.size, 8, none⟩ = some (.int .i64 r.how) ∧ (V.drewN nd).cell? ⟨w.heap.size, 9, none⟩ = some (.slice au nu cu) ∧ (V.drewN nd).cell? ⟨w.heap.size, 10, none⟩ = some (.slice av nv cv) ∧ (V.drewN nd).cell? ⟨w.heap.size + 1, 0, none⟩ = some (.int .i64 r.kind) ∧ (V.drewN nd).cell? ⟨w.heap.size + 1, 1, none⟩ = some (.int .i64 r.org) ∧ (V.drewN nd).cell? ⟨w.heap.size + 1, 2, none⟩ = some (.int .i64 r.num) ∧ (V.drewN nd).cell? ⟨w.heap.size + 1, 3, none⟩ = some (.int .i64 r.peer) ∧ (V.drewN nd).cell? ⟨w.heap.size + 1, 4, none⟩ = some (.int .i64 r.srv) ∧ (V.drewN nd).cell? ⟨w.heap.size + 1, 5, none⟩ = some (.int .i64 r.off) ∧ (V.drewN nd).cell? ⟨w.heap.size + 1, 6, none⟩ = some (.int .i64 r.red) ∧ (V.drewN nd).cell? ⟨w.heap.size + 1, 7, none⟩ = some (.int .i64 r.size) ∧ (V.drewN nd).cell? ⟨w.heap.size + 1, 8, none⟩ = some (.int .i64 r.how) ∧ (V.drewN nd).cell? ⟨w.heap.size + 1, 9, none⟩ = some (.slice bu nu du) ∧ (V.drewN nd).cell? ⟨w.heap.size + 1, 10, none⟩ = some (.slice bv nv dv)) := fun nd => by
    refine ⟨?_, ?_, ?_, ?_, ?_, ?_, ?_, ?_, ?_, ?_, ?_, ?_, ?_, ?_, ?_, ?_, ?_, ?_, ?_, ?_, ?_, ?_⟩ <;> first | exact (cell_of_row _ _ _ _ _ _ (show (V.drewN nd).heap[w.heap.size]? = _ from hx1)).trans rfl | exact (cell_of_row _ _ _ _ _ _ (show (V.drewN nd).heap[w.heap.size + 1]? = _ from hx2)).trans rfl
  have HK : Hid (∀ nd, (convert 33 9 (.slice av nv cv)).run Tryz.prog (V.drewN nd) = .ok (.string (strOfNums r.data)) (V.drewN nd) ∧ (convert 33 9 (.slice bv nv dv)).run Tryz.prog (V.drewN nd) = .ok (.string (strOfNums r.data)) (V.drewN nd)) := fun nd => ⟨conv8 _ _ _ _ _ hl (ha.below (hbV.trans ((below_dr nd).mono hbV.size))), conv8 _ _ _ _ _ hl (hb.below (hbV.trans ((below_dr nd).mono hbV.size)))⟩
  have HSp : Hid (Calls Tryz.prog 60 #[.slice au nu cu, .slice bu nu du] V fun e w' => e = .returned (.bool true) ∧ ∃ nd, w' = V.drewN nd) := sameSpans8_eq au bu cu du nu _ V hu hum (hs.below hbV) (hs2.below hbV)
  have HB : Hid (∀ nd, Below w.heap.size w (V.drewN nd)) := fun nd => hbV.trans ((below_dr nd).mono hbV.size)
  have heq := fun W => eql_s hss hss W
  have hgd := eqGuardS
  simp only [sA, decide_true] at heq
  generalize strOfNums r.data = S at *
  have hX0 := HX.out 0
  have hK0 := HK.out 0
  simp only [World.drewN_zero] at hX0 hK0
  obtain ⟨p0, p1, p2, p3, p4, p5, p6, p7, p8, p9, p10, q0, q1, q2, q3, q4, q5, q6, q7, q8, q9, q10⟩ := hX0
  obtain ⟨k1, k2⟩ := hK0
  clear hV hbV hx1 hx2 ha hb hl hs hs2 hu hss
  go_enter Tryz.func24, Tryz.ntmps24
  go_upto_region 1 with fail
  rw [HV.out]
  try simp only [List.append_eq, List.cons_append, List.nil_append]
  go_wp2_with (go_at_call 60; refine HSp.out.mono ?_; rintro e w2 ⟨rfl, nd, rfl⟩; obtain ⟨r0, r1, r2, r3, r4, r5, r6, r7, r8, r9, r10, s0, s1, s2, s3, s4, s5, s6, s7, s8, s9, s10⟩ := HX.out nd; obtain ⟨k3, k4⟩ := HK.out nd)
  go_ret
  exact ⟨rfl, HB.out nd⟩
end Go.Proofs.YtillgoegiplmkaaGreatDoor.B
