import Derived.Test.YtmbmoadhgmlabagDoorRcBkM
import Derived.Test.YtmbmoadhgmlabagDoorRcKpt
import Derived.Test.YtmbmoadhgmlabagDoorRcSme
import Derived.Test.YtmbmoadhgmlabagDoorRcSby
namespace Go.Proofs.YtmbmoadhgmlabagDoor
open Go.RowKit
set_option linter.unusedVariables false
set_option linter.unusedSimpArgs false

theorem row_sh2 {w : World} {base n : Nat} {v : Value} {xs : List Int} (h : w.ownsRow base 5 1 v n (xs.map (Value.int .u8))) : ∃ a cap, v = .slice a n cap ∧ Lies .u8 w a xs ∧ xs.length = n ∧ n ≤ cap ∧ cap ≤ 9223372036854775807 := by
  have hs : ∃ a cap, v = .slice a n cap ∧ n ≤ cap ∧ cap ≤ 9223372036854775807 := by
    obtain ⟨_, ⟨rfl, rfl⟩ | ⟨g, cap, cur, rfl, _, _, h1, h2, _⟩⟩ := h
    · exact ⟨_, _, rfl, Nat.le_refl _, by omega⟩
    · exact ⟨_, _, rfl, h1, by unfold maxLen at h2; omega⟩
  obtain ⟨a, cap, rfl, h1, h2⟩ := hs
  exact ⟨a, cap, rfl, (own_lies h).1, (own_lies h).2, h1, h2⟩
/-- A record in memory of its own lies there as any. -/
theorem own_rin {w : World} {base : Nat} {r : Rc} {sa da : Option Addr} {sc dc : Nat} (hs : C.SOwn w base (.slice sa r.spans.length sc) r.spans) (hd : w.ownsRow base 5 1 (.slice da r.data.length dc) r.data.length (r.data.map (Value.int .u8))) (hb : r.data.length ≤ 140737488355328) : RIn w r sa da r.spans.length r.data.length sc dc := by
  have hl : r.spans.length ≤ 9223372036854775807 := by
    obtain ⟨_, ⟨_, h0⟩ | ⟨_, cap, cur, hv, _, _, h1, h2, _⟩⟩ := hs
    · omega
    · unfold maxLen at h2; omega
  refine ⟨rfl, rfl, hb, hs.ls hl, (own_lies hd).1, fun e => ?_⟩
  subst e
  obtain ⟨_, ⟨h, h0⟩ | ⟨g, cap, cur, h, _⟩⟩ := hd
  · simp only [Value.slice.injEq] at h; exact ⟨h.2.1, h.2.2⟩
  · cases h
theorem recP_data2 {zs : List Int} {r : Rc} (hb : Bytey zs) (h : readP zs = some r) : r.data.length ≤ zs.length := by
  unfold readP at h
  split at h
  · rename_i r' t h1
    have h2 := recP_data hb h1
    cases t with
    | nil =>
      by_cases hm : mayB6 r' = true
      · simp only [fnl, hm, if_true, Option.some.injEq] at h
        subst h
        exact h2
      · simp [fnl, hm] at h
    | cons z tz => simp [fnl] at h
  · cases h
theorem rdR_back {r : Rc} (h : mayB6 r = true) : rdR (prB r) = (r, 0) := by
  unfold rdR
  have := prB_len h
  rw [if_neg (by omega), read_back h]

set_option maxRecDepth 100000 in
set_option maxHeartbeats 4000000 in
theorem back6_walk (r : Rc) (sa da : Option Addr) (ns nd sc dc : Nat) (a : Option Addr) (zs : List Int) (len cap : Nat) (w : World) (hT : Tab6 w) (hr : RIn w r sa da ns nd sc dc) (hrd : Bytey r.data) (hb : Bytey zs) (hl : zs.length = len) (hlc : len ≤ cap) (hc : cap ≤ 140737488355328) (hz : Lies .u8 w a zs) :
    Calls Tryd.prog 3 #[.agg (rcC r (.slice sa ns sc) (.slice da nd dc)), .slice a len cap] w fun e w' => e = .returned (.bool true) ∧ Below w.heap.size w w' := by
  have HB0 : Hid (Below w.heap.size w (w.alloc (rcO r (.slice sa ns sc) (.slice da nd dc)))) := (Below.refl _ _).alloc (Nat.le_refl _) _
  have HX0 : Hid ((w.alloc (rcO r (.slice sa ns sc) (.slice da nd dc))).heap[w.heap.size]? = some (rcO r (.slice sa ns sc) (.slice da nd dc))) := heap_new6 w _
  have HTB : Hid (∀ W, Below w.heap.size w W → Tab6 W) := fun W hW => hT.below hW (tab6_pos hT)
  have HRI : Hid (∀ W, Below w.heap.size w W → RIn W r sa da ns nd sc dc) := fun W hW => hr.below hW
  have HLZ : Hid (∀ W, Below w.heap.size w W → Lies .u8 W a zs) := fun W hW => hz.below hW
  have HRD : Hid (∀ W, Below w.heap.size w W → Calls Tryd.prog 9 #[.slice a len cap] W (RdPost (rdR zs) W)) := fun W hW => rread_any a zs len cap W (HTB.out W hW) hb hl hlc (by omega) (HLZ.out W hW)
  have HBZ : Hid (Bytey zs) := hb
  have HLE : Hid (zs.length = len) := hl
  have HDB : Hid (Bytey r.data) := hrd
  have hs0 : (w.alloc (rcO r (.slice sa ns sc) (.slice da nd dc))).heap.size = w.heap.size + 1 := by simp
  clear hT hr hz hb hl hrd
  have HPR : Hid (mayB6 r = true ∧ prR r = (prB r, 0) ∨ mayB6 r = false ∧ prR r = ([], 60)) := by
    unfold Hid prR
    cases hm : mayB6 r with
    | true => exact .inl ⟨rfl, rfl⟩
    | false => exact .inr ⟨rfl, rfl⟩
  generalize hW0 : w.alloc (rcO r (.slice sa ns sc) (.slice da nd dc)) = W0 at *
  go_enter Tryd.func3, Tryd.ntmps3
  go_upto_region 1 with fail
  clear hW0
  rcases HPR.out with ⟨hm, hp⟩ | ⟨hm, hp⟩
  · go_upto_region 4 with (first | (go_at_call 6; refine (awake6_any _ (HTB.out _ HB0.out)).mono ?_; rintro e w1 ⟨rfl, hb1⟩; have HB1 : Hid (Below w.heap.size w w1) := HB0.out.trans (hb1.mono HB0.out.size); have HX1 : Hid (w1.heap[w.heap.size]? = some (rcO r (.slice sa ns sc) (.slice da nd dc))) := (hb1.block _ (by omega)).trans HX0.out; obtain ⟨c0, c1, c2, c3, c4, c5, c6, c7, c8, c9, c10⟩ := rc_cells HX1.out; have hs1 : w.heap.size + 1 ≤ w1.heap.size := (by have := hb1.size; omega); clear hb1) | (go_at_call 7; refine (rprint_any r sa da ns nd sc dc _ (HTB.out _ HB1.out) (HRI.out _ HB1.out)).mono ?_; rintro e w2 ⟨v2, rfl, ho2, hb2⟩; rw [hp] at ho2 ⊢; have HB2 : Hid (Below w.heap.size w w2) := HB1.out.trans (hb2.mono HB1.out.size); have HX2 : Hid (w2.heap[w.heap.size]? = some (rcO r (.slice sa ns sc) (.slice da nd dc))) := (hb2.block _ (by omega)).trans HX1.out; clear c0 c1 c2 c3 c4 c5 c6 c7 c8 c9 c10; obtain ⟨d0, d1, d2, d3, d4, d5, d6, d7, d8, d9, d10⟩ := rc_cells HX2.out; have HO2 : Hid (w2.ownsRow w1.heap.size 5 1 v2 (prB r).length ((prB r).map (Value.int .u8))) := ho2; have hs2 := hb2.size; clear hb2 ho2) | (go_at_call 8; refine (rright_any r sa da ns nd sc dc _ (HTB.out _ HB2.out) (HRI.out _ HB2.out)).mono ?_; rintro e w3 ⟨rfl, hb3⟩; rw [hp]; have HB3 : Hid (Below w.heap.size w w3) := HB2.out.trans (hb3.mono HB2.out.size); have HX3 : Hid (w3.heap[w.heap.size]? = some (rcO r (.slice sa ns sc) (.slice da nd dc))) := (hb3.block _ (by omega)).trans HX2.out; have HO3 : Hid (w3.ownsRow w1.heap.size 5 1 v2 (prB r).length ((prB r).map (Value.int .u8))) := own_below6 HO2.out hb3; clear d0 d1 d2 d3 d4 d5 d6 d7 d8 d9 d10; have hs3 := hb3.size; clear hb3))
    obtain ⟨ap, cp, hvp, hlp, hnp, hpc, hpm⟩ := row_sh2 HO3.out
    have HLP : Hid (Lies .u8 w3 ap (prB r)) := hlp
    have HRN : Hid (r.spans.length = ns ∧ r.data.length = nd ∧ nd ≤ 140737488355328) := ⟨(HRI.out _ HB3.out).spn, (HRI.out _ HB3.out).dat, (HRI.out _ HB3.out).big⟩
    have HRP : Hid (∀ W, Below w.heap.size w W → Lies .u8 W ap (prB r) → Calls Tryd.prog 9 #[.slice ap (prB r).length cp] W fun e w' => ∃ sq dq cq eq, e = .returned (.tuple #[.agg (rcC r (.slice sq ns cq) (.slice dq nd eq)), .int .i64 0]) ∧ RIn w' r sq dq ns nd cq eq ∧ Below W.heap.size W w') := fun W hW hL => by
      have := rread_any ap (prB r) _ cp W (HTB.out W hW) (prB_bytey hm HDB.out) rfl hpc hpm hL
      rw [rdR_back hm] at this
      refine this.mono ?_
      rintro e w' ⟨sq, dq, cq, eq, he, hso, hdo, _, hbb⟩
      obtain ⟨h1, h2, h3⟩ := HRN.out
      have hri := own_rin hso hdo (by simp only [h2]; exact h3)
      simp only [h1, h2] at he hri
      exact ⟨sq, dq, cq, eq, he, hri, hbb⟩
    have hpl := prB_len hm
    rw [hvp]
    clear hlp hvp HO2 HO3 hm hp HPR
    generalize (prB r).length = np at *
    go_upto_region 8 with (go_at_call 9; refine (HRP.out _ HB3.out HLP.out).mono ?_; rintro e w4 ⟨sq, dq, cq, eq, rfl, hri4, hb4⟩)
    have hs4 := hb4.size
    have HB4 : Hid (Below w.heap.size w w4) := HB3.out.trans (hb4.mono HB3.out.size)
    have hb5 : Below w4.heap.size w4 (w4.alloc (rcO r (.slice sq ns cq) (.slice dq nd eq))) := (Below.refl _ _).alloc (Nat.le_refl _) _
    have HQ5 : Hid ((w4.alloc (rcO r (.slice sq ns cq) (.slice dq nd eq))).heap[w4.heap.size]? = some (rcO r (.slice sq ns cq) (.slice dq nd eq))) := heap_new6 w4 _
    have HX5 : Hid ((w4.alloc (rcO r (.slice sq ns cq) (.slice dq nd eq))).heap[w.heap.size]? = some (rcO r (.slice sa ns sc) (.slice da nd dc))) := (hb5.block _ (by omega)).trans ((hb4.block _ (by omega)).trans HX3.out)
    generalize w4.alloc (rcO r (.slice sq ns cq) (.slice dq nd eq)) = w5 at *
    have HB5 : Hid (Below w.heap.size w w5) := HB4.out.trans (hb5.mono HB4.out.size)
    have HRQ : Hid (RIn w5 r sq dq ns nd cq eq) := hri4.below hb5
    obtain ⟨c0, c1, c2, c3, c4, c5, c6, c7, c8, c9, c10⟩ := rc_cells HQ5.out
    obtain ⟨d0, d1, d2, d3, d4, d5, d6, d7, d8, d9, d10⟩ := rc_cells HX5.out
    clear hb4 hb5 hri4
    go_upto_region 11 with (go_at_call 10; refine (same6_eq r sq dq sa da ns nd cq eq sc dc _ HRQ.out (HRI.out _ HB5.out)).mono ?_; rintro e w6 ⟨rfl, hb6⟩)
    have HB6 : Hid (Below w.heap.size w w6) := HB5.out.trans (hb6.mono HB5.out.size)
    clear c0 c1 c2 c3 c4 c5 c6 c7 c8 c9 c10
    clear d0 d1 d2 d3 d4 d5 d6 d7 d8 d9 d10
    clear hb6
    by_cases hlong : 131072 < len
    · have hq : rdR zs = (rz0, 2) := by unfold rdR; rw [if_pos (by rw [HLE.out]; exact hlong)]
      have HR := HRD.out w6 HB6.out
      rw [hq] at HR
      have hlong' : (131072 : Int) < (len : Int) := by omega
      go_wp2_with (go_at_call 9; refine HR.mono ?_; rintro e w20 ⟨sx, dx, cx, ex, rfl, _, _, _, hb20⟩)
      go_ret
      exact ⟨rfl, HB6.out.trans ((hb20.mono HB6.out.size).alloc (Nat.le_trans HB6.out.size hb20.size) _)⟩
    · cases hq0 : readP zs with
      | none =>
        have hq : rdR zs = (rz0, 61) := by unfold rdR; rw [if_neg (by rw [HLE.out]; exact hlong), hq0]
        have HR := HRD.out w6 HB6.out
        rw [hq] at HR
        clear hq hq0
        go_wp2_with (go_at_call 9; refine HR.mono ?_; rintro e w20 ⟨sx, dx, cx, ex, rfl, _, _, _, hb20⟩)
        go_ret
        exact ⟨rfl, HB6.out.trans ((hb20.mono HB6.out.size).alloc (Nat.le_trans HB6.out.size hb20.size) _)⟩
      | some x =>
        have hq : rdR zs = (x, 0) := by unfold rdR; rw [if_neg (by rw [HLE.out]; exact hlong), hq0]
        obtain ⟨hzx, hmx⟩ := read_inv HBZ.out hq0
        have HR := HRD.out w6 HB6.out
        rw [hq] at HR
        have HXL : Hid (x.data.length ≤ 140737488355328) := by
          have h1 := recP_data2 HBZ.out hq0
          have h2 := HLE.out
          unfold Hid; omega
        have HPX : Hid (prR x = (zs, 0)) := by unfold Hid prR; rw [hmx, ← hzx]; rfl
        clear hq hq0 hzx hmx
        go_upto_region 14 with (go_at_call 9; refine HR.mono ?_; rintro e w20 ⟨sx, dx, cx, ex, rfl, hso, hdo, _, hb20⟩)
        have hs20 := hb20.size
        have HB20 : Hid (Below w.heap.size w w20) := HB6.out.trans (hb20.mono HB6.out.size)
        have hb21 : Below w20.heap.size w20 (w20.alloc (rcO x (.slice sx x.spans.length cx) (.slice dx x.data.length ex))) := (Below.refl _ _).alloc (Nat.le_refl _) _
        have HX21 : Hid ((w20.alloc (rcO x (.slice sx x.spans.length cx) (.slice dx x.data.length ex))).heap[w20.heap.size]? = some (rcO x (.slice sx x.spans.length cx) (.slice dx x.data.length ex))) := heap_new6 w20 _
        generalize w20.alloc (rcO x (.slice sx x.spans.length cx) (.slice dx x.data.length ex)) = w21 at *
        have HB21 : Hid (Below w.heap.size w w21) := HB20.out.trans (hb21.mono HB20.out.size)
        have HRX : Hid (RIn w21 x sx dx x.spans.length x.data.length cx ex) := own_rin (own_below6 hso hb21) (own_below6 hdo hb21) HXL.out
        obtain ⟨x0, x1, x2, x3, x4, x5, x6, x7, x8, x9, x10⟩ := rc_cells HX21.out
        clear hb20 hb21 hso hdo HR
        go_upto_region 15 with (go_at_call 7; refine (rprint_any x sx dx _ _ cx ex _ (HTB.out _ HB21.out) HRX.out).mono ?_; rintro e w22 ⟨v22, rfl, ho22, hb22⟩; rw [HPX.out] at ho22 ⊢)
        have HB22 : Hid (Below w.heap.size w w22) := HB21.out.trans (hb22.mono HB21.out.size)
        obtain ⟨a22, c22, hv22, hl22, hn22, _, _⟩ := row_sh2 ho22
        have HL22 : Hid (Lies .u8 w22 a22 zs) := hl22
        rw [hv22, HLE.out]
        clear x0 x1 x2 x3 x4 x5 x6 x7 x8 x9 x10
        clear hl22 ho22 hb22 hv22 hn22
        go_wp2_with (go_at_call 11; refine (sameBytes_eq a22 a zs len c22 cap _ HLE.out (by omega) HL22.out (HLZ.out _ HB22.out)).mono ?_; rintro e w23 ⟨rfl, hb23⟩)
        go_ret
        exact ⟨rfl, HB22.out.trans (hb23.mono HB22.out.size)⟩
  · go_upto_region 4 with (first | (go_at_call 6; refine (awake6_any _ (HTB.out _ HB0.out)).mono ?_; rintro e w1 ⟨rfl, hb1⟩; have HB1 : Hid (Below w.heap.size w w1) := HB0.out.trans (hb1.mono HB0.out.size); have HX1 : Hid (w1.heap[w.heap.size]? = some (rcO r (.slice sa ns sc) (.slice da nd dc))) := (hb1.block _ (by omega)).trans HX0.out; obtain ⟨c0, c1, c2, c3, c4, c5, c6, c7, c8, c9, c10⟩ := rc_cells HX1.out; have hs1 : w.heap.size + 1 ≤ w1.heap.size := (by have := hb1.size; omega); clear hb1) | (go_at_call 7; refine (rprint_any r sa da ns nd sc dc _ (HTB.out _ HB1.out) (HRI.out _ HB1.out)).mono ?_; rintro e w2 ⟨v2, rfl, ho2, hb2⟩; rw [hp] at ho2 ⊢; have HB2 : Hid (Below w.heap.size w w2) := HB1.out.trans (hb2.mono HB1.out.size); have HX2 : Hid (w2.heap[w.heap.size]? = some (rcO r (.slice sa ns sc) (.slice da nd dc))) := (hb2.block _ (by omega)).trans HX1.out; clear c0 c1 c2 c3 c4 c5 c6 c7 c8 c9 c10; obtain ⟨d0, d1, d2, d3, d4, d5, d6, d7, d8, d9, d10⟩ := rc_cells HX2.out; have HO2 : Hid (w2.ownsRow w1.heap.size 5 1 v2 (([] : List Int)).length ((([] : List Int)).map (Value.int .u8))) := ho2; have hs2 := hb2.size; clear hb2 ho2) | (go_at_call 8; refine (rright_any r sa da ns nd sc dc _ (HTB.out _ HB2.out) (HRI.out _ HB2.out)).mono ?_; rintro e w3 ⟨rfl, hb3⟩; rw [hp]; have HB3 : Hid (Below w.heap.size w w3) := HB2.out.trans (hb3.mono HB2.out.size); have HX3 : Hid (w3.heap[w.heap.size]? = some (rcO r (.slice sa ns sc) (.slice da nd dc))) := (hb3.block _ (by omega)).trans HX2.out; have HO3 : Hid (w3.ownsRow w1.heap.size 5 1 v2 (([] : List Int)).length ((([] : List Int)).map (Value.int .u8))) := own_below6 HO2.out hb3; clear d0 d1 d2 d3 d4 d5 d6 d7 d8 d9 d10; have hs3 := hb3.size; clear hb3))
    clear hm hp HPR HO2 HO3
    go_upto_region 11 with fail
    by_cases hlong : 131072 < len
    · have hq : rdR zs = (rz0, 2) := by unfold rdR; rw [if_pos (by rw [HLE.out]; exact hlong)]
      have HR := HRD.out w3 HB3.out
      rw [hq] at HR
      have hlong' : (131072 : Int) < (len : Int) := by omega
      go_wp2_with (go_at_call 9; refine HR.mono ?_; rintro e w20 ⟨sx, dx, cx, ex, rfl, _, _, _, hb20⟩)
      go_ret
      exact ⟨rfl, HB3.out.trans ((hb20.mono HB3.out.size).alloc (Nat.le_trans HB3.out.size hb20.size) _)⟩
    · cases hq0 : readP zs with
      | none =>
        have hq : rdR zs = (rz0, 61) := by unfold rdR; rw [if_neg (by rw [HLE.out]; exact hlong), hq0]
        have HR := HRD.out w3 HB3.out
        rw [hq] at HR
        clear hq hq0
        go_wp2_with (go_at_call 9; refine HR.mono ?_; rintro e w20 ⟨sx, dx, cx, ex, rfl, _, _, _, hb20⟩)
        go_ret
        exact ⟨rfl, HB3.out.trans ((hb20.mono HB3.out.size).alloc (Nat.le_trans HB3.out.size hb20.size) _)⟩
      | some x =>
        have hq : rdR zs = (x, 0) := by unfold rdR; rw [if_neg (by rw [HLE.out]; exact hlong), hq0]
        obtain ⟨hzx, hmx⟩ := read_inv HBZ.out hq0
        have HR := HRD.out w3 HB3.out
        rw [hq] at HR
        have HXL : Hid (x.data.length ≤ 140737488355328) := by
          have h1 := recP_data2 HBZ.out hq0
          have h2 := HLE.out
          unfold Hid; omega
        have HPX : Hid (prR x = (zs, 0)) := by unfold Hid prR; rw [hmx, ← hzx]; rfl
        clear hq hq0 hzx hmx
        go_upto_region 14 with (go_at_call 9; refine HR.mono ?_; rintro e w20 ⟨sx, dx, cx, ex, rfl, hso, hdo, _, hb20⟩)
        have hs20 := hb20.size
        have HB20 : Hid (Below w.heap.size w w20) := HB3.out.trans (hb20.mono HB3.out.size)
        have hb21 : Below w20.heap.size w20 (w20.alloc (rcO x (.slice sx x.spans.length cx) (.slice dx x.data.length ex))) := (Below.refl _ _).alloc (Nat.le_refl _) _
        have HX21 : Hid ((w20.alloc (rcO x (.slice sx x.spans.length cx) (.slice dx x.data.length ex))).heap[w20.heap.size]? = some (rcO x (.slice sx x.spans.length cx) (.slice dx x.data.length ex))) := heap_new6 w20 _
        generalize w20.alloc (rcO x (.slice sx x.spans.length cx) (.slice dx x.data.length ex)) = w21 at *
        have HB21 : Hid (Below w.heap.size w w21) := HB20.out.trans (hb21.mono HB20.out.size)
        have HRX : Hid (RIn w21 x sx dx x.spans.length x.data.length cx ex) := own_rin (own_below6 hso hb21) (own_below6 hdo hb21) HXL.out
        obtain ⟨x0, x1, x2, x3, x4, x5, x6, x7, x8, x9, x10⟩ := rc_cells HX21.out
        clear hb20 hb21 hso hdo HR
        go_upto_region 15 with (go_at_call 7; refine (rprint_any x sx dx _ _ cx ex _ (HTB.out _ HB21.out) HRX.out).mono ?_; rintro e w22 ⟨v22, rfl, ho22, hb22⟩; rw [HPX.out] at ho22 ⊢)
        have HB22 : Hid (Below w.heap.size w w22) := HB21.out.trans (hb22.mono HB21.out.size)
        obtain ⟨a22, c22, hv22, hl22, hn22, _, _⟩ := row_sh2 ho22
        have HL22 : Hid (Lies .u8 w22 a22 zs) := hl22
        rw [hv22, HLE.out]
        clear x0 x1 x2 x3 x4 x5 x6 x7 x8 x9 x10
        clear hl22 ho22 hb22 hv22 hn22
        go_wp2_with (go_at_call 11; refine (sameBytes_eq a22 a zs len c22 cap _ HLE.out (by omega) HL22.out (HLZ.out _ HB22.out)).mono ?_; rintro e w23 ⟨rfl, hb23⟩)
        go_ret
        exact ⟨rfl, HB22.out.trans (hb23.mono HB22.out.size)⟩
end Go.Proofs.YtmbmoadhgmlabagDoor
