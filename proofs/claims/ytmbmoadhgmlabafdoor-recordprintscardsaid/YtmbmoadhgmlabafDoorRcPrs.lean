import Derived.Test.YtmbmoadhgmlabafDoorRcPrf
import Derived.Test.YtmbmoadhgmlabafDoorRcSpl
import Derived.Test.YtmbmoadhgmlabafDoorRcSme
import Derived.Test.YtmbmoadhgmlabafDoorRcSby
namespace Go.Proofs.YtmbmoadhgmlabafDoor
open Go.RowKit
set_option linter.unusedVariables false

theorem prR_len (r : Rc) : (prR r).1.length ≤ 700001 := by
  unfold prR
  cases hm : mayB6 r with
  | false => simp
  | true =>
    obtain ⟨h1, h2, h3, h4⟩ := may_parts hm
    simp only [if_true]
    rw [pr_letters r h1, List.length_cons]
    have h5 := flat_lt (l := fsB r.kind) (f := ltB r) (b := 70000) (fun c hc => ltB_len h1 h2 h3 h4 hc)
    have h6 := (letters h1).2.2.2.2
    have h7 := Nat.mul_le_mul_right 70000 h6
    omega
theorem row_sh {w : World} {base n : Nat} {v : Value} {xs : List Int} (h : w.ownsRow base 5 1 v n (xs.map (Value.int .u8))) : ∃ a cap, v = .slice a n cap ∧ Lies .u8 w a xs ∧ xs.length = n := by
  have hs : ∃ a cap, v = .slice a n cap := by
    obtain ⟨_, ⟨rfl, rfl⟩ | ⟨g, cap, cur, rfl, _⟩⟩ := h
    · exact ⟨_, _, rfl⟩
    · exact ⟨_, _, rfl⟩
  obtain ⟨a, cap, rfl⟩ := hs
  exact ⟨a, cap, rfl, own_lies h⟩
theorem own_oth {w w' : World} {base size n gd gs : Nat} {e : TypeId} {v : Value} {xs : List Value} (h : w.ownsRow base e size v n xs) (hg : Oth gd gs w w') (hr : ∀ k, v.ownBlock = some k → k ≠ gd ∧ k ≠ gs) : w'.ownsRow base e size v n xs := by
  have hlt := h.lt
  obtain ⟨hl, h | ⟨g, cap, cur, rfl, hb, hh, r⟩⟩ := h
  · exact ⟨hl, .inl h⟩
  · refine ⟨hl, .inr ⟨g, cap, cur, rfl, hb, ?_, r⟩⟩
    have := hr g rfl
    rw [hg.block g (hlt g rfl).2 this.1 this.2]; exact hh
theorem own_under {w w' : World} {base b size n : Nat} {e : TypeId} {v : Value} {xs : List Value} (h : w.ownsRow base e size v n xs) (hg : Below b w w') (hr : ∀ k, v.ownBlock = some k → k < b) : w'.ownsRow base e size v n xs := by
  obtain ⟨hl, h | ⟨g, cap, cur, rfl, hb, hh, r⟩⟩ := h
  · exact ⟨hl, .inl h⟩
  · refine ⟨hl, .inr ⟨g, cap, cur, rfl, hb, ?_, r⟩⟩
    rw [hg.block g (hr g rfl)]; exact hh
theorem Lnd.under {w w' : World} {base gd gs ns nd b : Nat} {l : List (Int × Int)} {zs : List Int} (h : Lnd w base gd gs ns nd l zs) (hb : Below b w w') (h1 : gd < b) (h2 : gs < b) : Lnd w' base gd gs ns nd l zs :=
  ⟨(hb.block gd h1).trans h.dat, own_under h.spn hb (by intro k hk; simp [Value.ownBlock] at hk; omega), h.ndl, h.nsl, h.ne, h.lo, h.sd, h.ss⟩

set_option maxRecDepth 100000 in
set_option maxHeartbeats 4000000 in
theorem prints_walk (r : Rc) (sa da : Option Addr) (ns nd sc dc : Nat) (w : World) (hT : Tab6 w) (hr : RIn w r sa da ns nd sc dc) (hd : nd ≤ 140737488351232) (hs : ns * 16 ≤ 140737488351232) :
    Calls Tryd.prog 4 #[.agg (rcC r (.slice sa ns sc) (.slice da nd dc))] w fun e w' => e = .returned (.bool true) ∧ Below w.heap.size w w' := by
  obtain ⟨i0, hi, hz0, hz1, hz2⟩ := info_parts Tryd.info_u8
  have HB0 : Hid (Below w.heap.size w (w.alloc (rcO r (.slice sa ns sc) (.slice da nd dc)))) := (Below.refl _ _).alloc (Nat.le_refl _) _
  have HX0 : Hid ((w.alloc (rcO r (.slice sa ns sc) (.slice da nd dc))).heap[w.heap.size]? = some (rcO r (.slice sa ns sc) (.slice da nd dc))) := heap_new6 w _
  have HTB : Hid (∀ W, Below w.heap.size w W → Tab6 W) := fun W hW => hT.below hW (tab6_pos hT)
  have HRI : Hid (∀ W, Below w.heap.size w W → RIn W r sa da ns nd sc dc) := fun W hW => hr.below hW
  have HLN : Hid ((prR r).1.length ≤ 700001) := prR_len r
  clear hT hr
  obtain ⟨P, hP⟩ : ∃ P, P = prR r := ⟨_, rfl⟩
  have HPE : Hid (P = prR r) := hP
  have hpl : P.1.length ≤ 700001 := by rw [hP]; exact HLN.out
  clear hP HLN
  generalize hW0 : w.alloc (rcO r (.slice sa ns sc) (.slice da nd dc)) = W0 at *
  have hs0 : W0.heap.size = w.heap.size + 1 := by rw [← hW0]; simp
  go_enter Tryd.func4, Tryd.ntmps4
  go_upto_region 1 with fail
  clear hW0
  go_upto_region 5 with (first
    | (go_at_call 14; refine (awake6_any _ (HTB.out _ HB0.out)).mono ?_; rintro e w1 ⟨rfl, hb1⟩; have HB1 : Hid (Below w.heap.size w w1) := HB0.out.trans (hb1.mono HB0.out.size); have HX1 : Hid (w1.heap[w.heap.size]? = some (rcO r (.slice sa ns sc) (.slice da nd dc))) := (hb1.block _ (by omega)).trans HX0.out; obtain ⟨c0, c1, c2, c3, c4, c5, c6, c7, c8, c9, c10⟩ := rc_cells HX1.out; have hs1 : w.heap.size + 1 ≤ w1.heap.size := (by have := hb1.size; omega); clear hb1)
    | (go_at_call 15; refine (print2_any r sa da ns nd sc dc _ (HRI.out _ HB1.out)).mono ?_; rintro e w2 ⟨v2, rfl, ho2, hb2⟩; rw [← HPE.out] at ho2 ⊢; have HB2 : Hid (Below w.heap.size w w2) := HB1.out.trans (hb2.mono HB1.out.size); have HX2 : Hid (w2.heap[w.heap.size]? = some (rcO r (.slice sa ns sc) (.slice da nd dc))) := (hb2.block _ (by omega)).trans HX1.out; obtain ⟨e0, e1, e2, e3, e4, e5, e6, e7, e8, e9, e10⟩ := rc_cells HX2.out; have HO2 : Hid (w2.ownsRow w1.heap.size 5 1 v2 P.1.length (P.1.map (Value.int .u8))) := ho2; have hs2 := hb2.size; clear hb2 ho2 c0 c1 c2 c3 c4 c5 c6 c7 c8 c9 c10)
    | (go_at_call 16; refine (right2_any r sa da ns nd sc dc _ (HRI.out _ HB2.out)).mono ?_; rintro e w3 ⟨rfl, hb3⟩; rw [← HPE.out]; have HB3 : Hid (Below w.heap.size w w3) := HB2.out.trans (hb3.mono HB2.out.size); have HX3 : Hid (w3.heap[w.heap.size]? = some (rcO r (.slice sa ns sc) (.slice da nd dc))) := (hb3.block _ (by omega)).trans HX2.out; obtain ⟨f0, f1, f2, f3, f4, f5, f6, f7, f8, f9, f10⟩ := rc_cells HX3.out; have HO3 : Hid (w3.ownsRow w1.heap.size 5 1 v2 P.1.length (P.1.map (Value.int .u8))) := own_below6 HO2.out hb3; have hs3 := hb3.size; clear hb3 e0 e1 e2 e3 e4 e5 e6 e7 e8 e9 e10)
    | (go_at_call 17; refine (lent6_any r sa da ns nd sc dc _ (HRI.out _ HB3.out) hd hs).mono ?_; rintro e w4 ⟨gd, gs, rfl, hbk4, hso4, hne4, hge4, hb4⟩; have HB4 : Hid (Below w.heap.size w w4) := HB3.out.trans (hb4.mono HB3.out.size); have HX4 : Hid (w4.heap[w.heap.size]? = some (rcO r (.slice sa ns sc) (.slice da nd dc))) := (hb4.block _ (by omega)).trans HX3.out; have HL4 : Hid (Lnd w4 w3.heap.size gd gs ns nd r.spans r.data) := ⟨hbk4, hso4, (HRI.out _ HB3.out).dat, (HRI.out _ HB3.out).spn, hne4, hge4, hd, hs⟩; have HO4 : Hid (w4.ownsRow w1.heap.size 5 1 v2 P.1.length (P.1.map (Value.int .u8))) := own_below6 HO3.out hb4; have hs4 := hb4.size; clear hb4 hbk4 hso4 hne4 f0 f1 f2 f3 f4 f5 f6 f7 f8 f9 f10))
  have hb5 : Below w4.heap.size w4 (w4.alloc (rcO r (.slice (some ⟨gs, 0, none⟩) ns (ns + 2)) (.slice (some ⟨gd, 0, none⟩) nd (nd + 2)))) := (Below.refl _ _).alloc (Nat.le_refl _) _
  have HQ5 : Hid ((w4.alloc (rcO r (.slice (some ⟨gs, 0, none⟩) ns (ns + 2)) (.slice (some ⟨gd, 0, none⟩) nd (nd + 2)))).heap[w4.heap.size]? = some (rcO r (.slice (some ⟨gs, 0, none⟩) ns (ns + 2)) (.slice (some ⟨gd, 0, none⟩) nd (nd + 2)))) := heap_new6 w4 _
  have hs5 : (w4.alloc (rcO r (.slice (some ⟨gs, 0, none⟩) ns (ns + 2)) (.slice (some ⟨gd, 0, none⟩) nd (nd + 2)))).heap.size = w4.heap.size + 1 := by simp
  have hgd4 : gd < w4.heap.size := (Array.getElem?_eq_some_iff.mp HL4.out.dat).1
  have hgs4 := HL4.out.gsl
  have hne4 := HL4.out.ne
  generalize w4.alloc (rcO r (.slice (some ⟨gs, 0, none⟩) ns (ns + 2)) (.slice (some ⟨gd, 0, none⟩) nd (nd + 2))) = w5 at *
  have HB5 : Hid (Below w.heap.size w w5) := HB4.out.trans (hb5.mono HB4.out.size)
  have HX5 : Hid (w5.heap[w.heap.size]? = some (rcO r (.slice sa ns sc) (.slice da nd dc))) := (hb5.block _ (by omega)).trans HX4.out
  have HL5 : Hid (Lnd w5 w3.heap.size gd gs ns nd r.spans r.data) := HL4.out.below hb5
  have HO5 : Hid (w5.ownsRow w1.heap.size 5 1 v2 P.1.length (P.1.map (Value.int .u8))) := own_below6 HO4.out hb5
  obtain ⟨c0, c1, c2, c3, c4, c5, c6, c7, c8, c9, c10⟩ := rc_cells HQ5.out
  clear hb5 HL4 HO4 HX4 HB4
  go_upto_region 7 with (first
    | (go_at_call 18; refine (rright_any r _ _ ns nd _ _ _ (HTB.out _ HB5.out) HL5.out.rin).mono ?_; rintro e w6 ⟨rfl, hb6⟩; rw [← HPE.out]; have HB6 : Hid (Below w.heap.size w w6) := HB5.out.trans (hb6.mono HB5.out.size); have HX6 : Hid (w6.heap[w.heap.size]? = some (rcO r (.slice sa ns sc) (.slice da nd dc))) := (hb6.block _ (by omega)).trans HX5.out; have HQ6 : Hid (w6.heap[w4.heap.size]? = some (rcO r (.slice (some ⟨gs, 0, none⟩) ns (ns + 2)) (.slice (some ⟨gd, 0, none⟩) nd (nd + 2)))) := (hb6.block _ (by omega)).trans HQ5.out; have HL6 : Hid (Lnd w6 w3.heap.size gd gs ns nd r.spans r.data) := HL5.out.below hb6; have HO6 : Hid (w6.ownsRow w1.heap.size 5 1 v2 P.1.length (P.1.map (Value.int .u8))) := own_below6 HO5.out hb6; have hs6 := hb6.size; obtain ⟨d0, d1, d2, d3, d4, d5, d6, d7, d8, d9, d10⟩ := rc_cells HQ6.out; clear hb6)
    | (go_at_call 19; refine (rprint_any r _ _ ns nd _ _ _ (HTB.out _ HB6.out) HL6.out.rin).mono ?_; rintro e w7 ⟨va, rfl, ho7, hb7⟩; rw [← HPE.out] at ho7 ⊢; have HB7 : Hid (Below w.heap.size w w7) := HB6.out.trans (hb7.mono HB6.out.size); have HX7 : Hid (w7.heap[w.heap.size]? = some (rcO r (.slice sa ns sc) (.slice da nd dc))) := (hb7.block _ (by omega)).trans HX6.out; have HQ7 : Hid (w7.heap[w4.heap.size]? = some (rcO r (.slice (some ⟨gs, 0, none⟩) ns (ns + 2)) (.slice (some ⟨gd, 0, none⟩) nd (nd + 2)))) := (hb7.block _ (by omega)).trans HQ6.out; have HL7 : Hid (Lnd w7 w3.heap.size gd gs ns nd r.spans r.data) := HL6.out.below hb7; have HO7 : Hid (w7.ownsRow w1.heap.size 5 1 v2 P.1.length (P.1.map (Value.int .u8))) := own_below6 HO6.out hb7; have hs7 := hb7.size; have HA7 : Hid (w7.ownsRow w6.heap.size 5 1 va P.1.length (P.1.map (Value.int .u8))) := ho7; obtain ⟨e0, e1, e2, e3, e4, e5, e6, e7, e8, e9, e10⟩ := rc_cells HQ7.out; clear d0 d1 d2 d3 d4 d5 d6 d7 d8 d9 d10; clear c0 c1 c2 c3 c4 c5 c6 c7 c8 c9 c10; clear hb7 ho7))
  go_upto_region 8 with (go_at_call 19; refine (rprint_any r _ _ ns nd _ _ _ (HTB.out _ HB7.out) HL7.out.rin).mono ?_; rintro e w8 ⟨vb, rfl, ho8, hb8⟩; rw [← HPE.out] at ho8 ⊢; have HB8 : Hid (Below w.heap.size w w8) := HB7.out.trans (hb8.mono HB7.out.size); have HX8 : Hid (w8.heap[w.heap.size]? = some (rcO r (.slice sa ns sc) (.slice da nd dc))) := (hb8.block _ (by omega)).trans HX7.out; have HQ8 : Hid (w8.heap[w4.heap.size]? = some (rcO r (.slice (some ⟨gs, 0, none⟩) ns (ns + 2)) (.slice (some ⟨gd, 0, none⟩) nd (nd + 2)))) := (hb8.block _ (by omega)).trans HQ7.out; have HL8 : Hid (Lnd w8 w3.heap.size gd gs ns nd r.spans r.data) := HL7.out.below hb8; have HO8 : Hid (w8.ownsRow w1.heap.size 5 1 v2 P.1.length (P.1.map (Value.int .u8))) := own_below6 HO7.out hb8; have hs8 := hb8.size; have HA8 : Hid (w8.ownsRow w6.heap.size 5 1 va P.1.length (P.1.map (Value.int .u8))) := own_below6 HA7.out hb8; have HC8 : Hid (w8.ownsRow w7.heap.size 5 1 vb P.1.length (P.1.map (Value.int .u8))) := ho8; clear e0 e1 e2 e3 e4 e5 e6 e7 e8 e9 e10; clear hb8 ho8)
  obtain ⟨aw, cw, hvw, hlw, _⟩ := row_sh HO8.out
  obtain ⟨aa, ca, hva, hla, _⟩ := row_sh HA8.out
  obtain ⟨ab, cb, hvb, hlb, hpn⟩ := row_sh HC8.out
  have HLW : Hid (Lies .u8 w8 aw P.1) := hlw
  have HLA : Hid (Lies .u8 w8 aa P.1) := hla
  have HLB : Hid (Lies .u8 w8 ab P.1) := hlb
  have hak : ∀ k, va.ownBlock = some k → k < w7.heap.size := fun k hk => (HA7.out.lt k hk).2
  have hwk : ∀ k, v2.ownBlock = some k → k < w3.heap.size := fun k hk => (HO3.out.lt k hk).2
  have HAK : Hid (∀ k, va.ownBlock = some k → k < w7.heap.size) := hak
  have HWK : Hid (∀ k, v2.ownBlock = some k → k < w3.heap.size) := hwk
  clear hak hwk
  clear hlw hla hlb HB5 HB6 HB7 HX5 HX6 HX7 HL5 HL6 HL7 HO5 HO6 HO7 HQ5 HQ6 HQ7 HA7
  have HVW : Hid (v2 = .slice aw P.1.length cw) := hvw
  have HVA : Hid (va = .slice aa P.1.length ca) := hva
  have HVB : Hid (vb = .slice ab P.1.length cb) := hvb
  rw [hvw, hva, hvb]
  clear hvw hva hvb
  go_upto_region 9 with (go_at_call 20; refine (sameBytes_eq aa aw P.1 P.1.length ca cw _ rfl (by omega) HLA.out HLW.out).mono ?_; rintro e w9 ⟨rfl, hb9⟩; have HB9 : Hid (Below w.heap.size w w9) := HB8.out.trans (hb9.mono HB8.out.size); have HX9 : Hid (w9.heap[w.heap.size]? = some (rcO r (.slice sa ns sc) (.slice da nd dc))) := (hb9.block _ (by omega)).trans HX8.out; have HQ9 : Hid (w9.heap[w4.heap.size]? = some (rcO r (.slice (some ⟨gs, 0, none⟩) ns (ns + 2)) (.slice (some ⟨gd, 0, none⟩) nd (nd + 2)))) := (hb9.block _ (by omega)).trans HQ8.out; have HL9 : Hid (Lnd w9 w3.heap.size gd gs ns nd r.spans r.data) := HL8.out.below hb9; have HO9 : Hid (w9.ownsRow w1.heap.size 5 1 v2 P.1.length (P.1.map (Value.int .u8))) := own_below6 HO8.out hb9; have hs9 := hb9.size; have HA9 : Hid (w9.ownsRow w6.heap.size 5 1 va P.1.length (P.1.map (Value.int .u8))) := own_below6 HA8.out hb9; have HC9 : Hid (w9.ownsRow w7.heap.size 5 1 vb P.1.length (P.1.map (Value.int .u8))) := own_below6 HC8.out hb9; have HLW9 : Hid (Lies .u8 w9 aw P.1) := HLW.out.below hb9; have HLB9 : Hid (Lies .u8 w9 ab P.1) := HLB.out.below hb9; clear hb9)
  go_upto_region 12 with (first
    | (go_at_call 20; refine (sameBytes_eq ab aw P.1 P.1.length cb cw _ rfl (by omega) HLB9.out HLW9.out).mono ?_; rintro e w10 ⟨rfl, hb10⟩; have HB10 : Hid (Below w.heap.size w w10) := HB9.out.trans (hb10.mono HB9.out.size); have HX10 : Hid (w10.heap[w.heap.size]? = some (rcO r (.slice sa ns sc) (.slice da nd dc))) := (hb10.block _ (by omega)).trans HX9.out; have HQ10 : Hid (w10.heap[w4.heap.size]? = some (rcO r (.slice (some ⟨gs, 0, none⟩) ns (ns + 2)) (.slice (some ⟨gd, 0, none⟩) nd (nd + 2)))) := (hb10.block _ (by omega)).trans HQ9.out; have HL10 : Hid (Lnd w10 w3.heap.size gd gs ns nd r.spans r.data) := HL9.out.below hb10; have HO10 : Hid (w10.ownsRow w1.heap.size 5 1 v2 P.1.length (P.1.map (Value.int .u8))) := own_below6 HO9.out hb10; have hs10 := hb10.size; have HA10 : Hid (w10.ownsRow w6.heap.size 5 1 va P.1.length (P.1.map (Value.int .u8))) := own_below6 HA9.out hb10; have HC10 : Hid (w10.ownsRow w7.heap.size 5 1 vb P.1.length (P.1.map (Value.int .u8))) := own_below6 HC9.out hb10; obtain ⟨c0, c1, c2, c3, c4, c5, c6, c7, c8, c9, c10⟩ := rc_cells HQ10.out; obtain ⟨d0, d1, d2, d3, d4, d5, d6, d7, d8, d9, d10⟩ := rc_cells HX10.out; clear hb10)
    | (go_at_call 21; refine (same6_eq r _ _ sa da ns nd _ _ sc dc _ HL10.out.rin (HRI.out _ HB10.out)).mono ?_; rintro e w11 ⟨rfl, hb11⟩; have HB11 : Hid (Below w.heap.size w w11) := HB10.out.trans (hb11.mono HB10.out.size); have HX11 : Hid (w11.heap[w.heap.size]? = some (rcO r (.slice sa ns sc) (.slice da nd dc))) := (hb11.block _ (by omega)).trans HX10.out; have HQ11 : Hid (w11.heap[w4.heap.size]? = some (rcO r (.slice (some ⟨gs, 0, none⟩) ns (ns + 2)) (.slice (some ⟨gd, 0, none⟩) nd (nd + 2)))) := (hb11.block _ (by omega)).trans HQ10.out; have HL11 : Hid (Lnd w11 w3.heap.size gd gs ns nd r.spans r.data) := HL10.out.below hb11; have HO11 : Hid (w11.ownsRow w1.heap.size 5 1 v2 P.1.length (P.1.map (Value.int .u8))) := own_below6 HO10.out hb11; have hs11 := hb11.size; have HA11 : Hid (w11.ownsRow w6.heap.size 5 1 va P.1.length (P.1.map (Value.int .u8))) := own_below6 HA10.out hb11; have HC11 : Hid (w11.ownsRow w7.heap.size 5 1 vb P.1.length (P.1.map (Value.int .u8))) := own_below6 HC10.out hb11; clear c0 c1 c2 c3 c4 c5 c6 c7 c8 c9 c10; clear d0 d1 d2 d3 d4 d5 d6 d7 d8 d9 d10; obtain ⟨e0, e1, e2, e3, e4, e5, e6, e7, e8, e9, e10⟩ := rc_cells HQ11.out; clear hb11)
    | (go_at_call 22; refine (kept6_any r w3.heap.size gd gs ns nd r.spans r.data _ HL11.out).mono ?_; rintro e w12 ⟨rfl, hb12⟩; have HB12 : Hid (Below w.heap.size w w12) := HB11.out.trans (hb12.mono HB11.out.size); have HX12 : Hid (w12.heap[w.heap.size]? = some (rcO r (.slice sa ns sc) (.slice da nd dc))) := (hb12.block _ (by omega)).trans HX11.out; have HQ12 : Hid (w12.heap[w4.heap.size]? = some (rcO r (.slice (some ⟨gs, 0, none⟩) ns (ns + 2)) (.slice (some ⟨gd, 0, none⟩) nd (nd + 2)))) := (hb12.block _ (by omega)).trans HQ11.out; have HL12 : Hid (Lnd w12 w3.heap.size gd gs ns nd r.spans r.data) := HL11.out.below hb12; have HO12 : Hid (w12.ownsRow w1.heap.size 5 1 v2 P.1.length (P.1.map (Value.int .u8))) := own_below6 HO11.out hb12; have hs12 := hb12.size; have HA12 : Hid (w12.ownsRow w6.heap.size 5 1 va P.1.length (P.1.map (Value.int .u8))) := own_below6 HA11.out hb12; have HC12 : Hid (w12.ownsRow w7.heap.size 5 1 vb P.1.length (P.1.map (Value.int .u8))) := own_below6 HC11.out hb12; clear e0 e1 e2 e3 e4 e5 e6 e7 e8 e9 e10; obtain ⟨c0, c1, c2, c3, c4, c5, c6, c7, c8, c9, c10⟩ := rc_cells HQ12.out; clear hb12))
  clear HB8 HB9 HB10 HB11 HX8 HX9 HX10 HX11 HX12 HQ8 HQ9 HQ10 HQ11 HL8 HL9 HL10 HL11 HO8 HO9 HO10 HO11 HA8 HA9 HA10 HA11 HC8 HC9 HC10 HC11 HLW HLA HLB HLW9 HLB9 HX0 HB0 HB1 HX1 HB2 HX2 HB3 HX3 HO2 HO3
  go_upto_region 16 with (go_at_call 23; refine (spoil6_any r w3.heap.size gd gs ns nd r.spans r.data 7 7 (-8) _ HL12.out (by decide) (by decide)).mono ?_; rintro e w13 ⟨⟨v13, rfl⟩, hl13, ho13⟩)
  have HL13 : Hid (Lnd w13 w3.heap.size gd gs ns nd (List.replicate ns (-8, 0)) (List.replicate nd 7)) := hl13
  have hs13 := ho13.size
  have HB13 : Hid (Below w.heap.size w w13) := ho13.below HB12.out (by omega) (by omega) HB12.out.size
  have HQ13 : Hid (w13.heap[w4.heap.size]? = some (rcO r (.slice (some ⟨gs, 0, none⟩) ns (ns + 2)) (.slice (some ⟨gd, 0, none⟩) nd (nd + 2)))) := (ho13.block _ (by omega) (by omega) (by omega)).trans HQ12.out
  have HO13 : Hid (w13.ownsRow w1.heap.size 5 1 v2 P.1.length (P.1.map (Value.int .u8))) := own_oth HO12.out ho13 (fun k hk => by have := HWK.out k hk; omega)
  have HA13 : Hid (w13.ownsRow w6.heap.size 5 1 va P.1.length (P.1.map (Value.int .u8))) := own_oth HA12.out ho13 (fun k hk => by have := (HA12.out.lt k hk).1; omega)
  have HC13 : Hid (w13.ownsRow w7.heap.size 5 1 vb P.1.length (P.1.map (Value.int .u8))) := own_oth HC12.out ho13 (fun k hk => by have := (HC12.out.lt k hk).1; omega)
  clear c0 c1 c2 c3 c4 c5 c6 c7 c8 c9 c10
  clear hl13 ho13 HB12 HQ12 HO12 HA12 HC12 HL12
  have HA14 : Hid (w13.ownsRow w6.heap.size 5 1 (.slice aa P.1.length ca) P.1.length (((List.replicate P.1.length (201 : Int)).take 0 ++ P.1.drop 0).map (Value.int .u8))) := by
    have := HA13.out; rw [HVA.out] at this; unfold Hid; simpa using this
  clear HA13
  have hn47 : P.1.length ≤ 700001 := hpl
  generalize hn : P.1.length = n at *
  have HN : Hid (P.1.length = n) := hn
  clear hn
  have HAK2 : Hid (∀ k, (Value.slice aa n ca).ownBlock = some k → k < w7.heap.size) := HVA.out ▸ HAK.out
  have HRL : Hid ((List.replicate n (201 : Int)).length = P.1.length) := by unfold Hid; rw [HN.out]; simp
  go_loopw [17] (fun i wr => ∃ k : Nat, k ≤ n ∧ i = .int .i64 k ∧ wr.ownsRow w6.heap.size 5 1 (.slice aa n ca) n (((List.replicate n (201 : Int)).take k ++ P.1.drop k).map (Value.int .u8)) ∧ Below w6.heap.size w13 wr ∧ wr.ownsRow w7.heap.size 5 1 vb n (P.1.map (Value.int .u8))) (fun i _ => n - (intOf i).toNat)
  case atStart => exact ⟨0, Nat.zero_le _, rfl, HA14.out, Below.refl _ _, HC13.out⟩
  case round =>
    obtain ⟨k, hk, rfl, hra, hbe, hrc⟩ := hrel
    have HRA : Hid (wr.ownsRow w6.heap.size 5 1 (.slice aa n ca) n (((List.replicate n (201 : Int)).take k ++ P.1.drop k).map (Value.int .u8))) := hra
    have HBE : Hid (Below w6.heap.size w13 wr) := hbe
    have HRC : Hid (wr.ownsRow w7.heap.size 5 1 vb n (P.1.map (Value.int .u8))) := hrc
    clear hra hbe hrc HA14 HC13
    by_cases hlt : k < n
    · have hlt' : (k : Int) < (n : Int) := by omega
      obtain ⟨ga, cap, hv, hga⟩ := own_pos7 HRA.out (by omega)
      simp only [Value.slice.injEq] at hv
      obtain ⟨rfl, _, rfl⟩ := hv
      have hgk := HAK2.out ga rfl
      have hfr := HRA.out.frozenAt k
      have hck : ∃ y : Int, wr.cell? ⟨ga, k, none⟩ = some (.int .u8 y) := by
        have h1 := HRA.out.cellAt k (by omega)
        have hkl : k < ((List.replicate n (201 : Int)).take k ++ P.1.drop k).length := by rw [List.length_append, List.length_take, List.length_drop, HRL.out, HN.out]; omega
        rw [List.getElem?_map, List.getElem?_eq_getElem hkl] at h1
        exact ⟨_, h1⟩
      obtain ⟨y, hce⟩ := hck
      have hst := (HRA.out.stored k (.int .u8 201)).1
      rw [← List.map_set, gfill_set _ _ k 201 (by rw [List.getElem?_replicate, if_pos hlt]) HRL.out] at hst
      have HST : Hid ((wr.setCell ⟨ga, k, none⟩ (.int .u8 201)).ownsRow w6.heap.size 5 1 (.slice (some ⟨ga, 0, none⟩) n ca) n (((List.replicate n (201 : Int)).take (k + 1) ++ P.1.drop (k + 1)).map (Value.int .u8))) := hst
      have HB2 : Hid (Below w6.heap.size w13 (wr.setCell ⟨ga, k, none⟩ (.int .u8 201))) := HBE.out.setCell (p := ⟨ga, k, none⟩) hga _
      have HC2 : Hid ((wr.setCell ⟨ga, k, none⟩ (.int .u8 201)).ownsRow w7.heap.size 5 1 vb n (P.1.map (Value.int .u8))) := own_keep6 HRC.out (grown_set _ _ _ _) (by intro j hj; have := (HRC.out.lt j hj).1; simp; omega)
      clear hst
      go_wp2
      go_roundw
      case rel => exact ⟨k + 1, by omega, by go_num, HST.out, HB2.out, HC2.out⟩
      case measure => simp [intOf]; omega
    · have hlt' : ¬ (k : Int) < (n : Int) := by omega
      have HNE : Hid (∀ j, vb.ownBlock = some j → (Value.slice aa n ca).ownBlock ≠ some j) := fun j hj hj2 => by
        have h1 := HAK2.out j hj2
        have h2 := (HRC.out.lt j hj).1
        omega
      go_upto_region 20 with fail
      have hlx : ((List.replicate n (201 : Int)).take k ++ P.1.drop k).length = n := by have := HRA.out.1; simpa using this
      go_loopw [9, 18] (fun a i wx => ∃ m : Nat, m ≤ 40 ∧ i = .int .i64 m ∧ (∃ xs, wx.ownsRow w6.heap.size 5 1 a (n + m) xs) ∧ Below w6.heap.size w13 wx ∧ wx.ownsRow w7.heap.size 5 1 vb n (P.1.map (Value.int .u8)) ∧ (∀ j, vb.ownBlock = some j → a.ownBlock ≠ some j)) (fun _ i _ => 40 - (intOf i).toNat)
      case atStart => exact ⟨0, by omega, rfl, ⟨_, HRA.out⟩, HBE.out, HRC.out, HNE.out⟩
      case round =>
        obtain ⟨m, hm, rfl, ⟨xs, hra⟩, hbe, hrc, hne⟩ := hrel
        have HRA2 : Hid (wr.ownsRow w6.heap.size 5 1 u9 (n + m) xs) := hra
        have HBE2 : Hid (Below w6.heap.size w13 wr) := hbe
        have HRC2 : Hid (wr.ownsRow w7.heap.size 5 1 vb n (P.1.map (Value.int .u8))) := hrc
        have HNE2 : Hid (∀ j, vb.ownBlock = some j → u9.ownBlock ≠ some j) := hne
        have hsr := hbe.size
        have hs613 : w6.heap.size ≤ w13.heap.size := by omega
        clear hra hbe hrc hne HRA HBE HRC HNE
        by_cases hmt : m < 40
        · have hmt' : (m : Int) < 40 := by omega
          go_wp2_with (at_builtin; refine append_at _ rfl _ _ 39 rfl w6.heap.size 5 i0 (.int .u8 0) 1 Tryd.underlying39 hi hz0 hz1 hz2 rfl _ _ _ rfl (own_below6 HRA2.out ((Below.refl _ _).alloc (Nat.le_refl _) _)) .u8 _ _ _ [202] rfl (by intro h; cases h) rfl (Blk.lies (k := .u8) (t := 5) (xs := [202]) (by exact heap_new6 _ _) 1) (by unfold maxLen; omega) (by omega) (by simp; omega) ?_; intro v2' w2' ho2' hg2' hst2')
          have HOA := own_below6 HRA2.out ((Below.refl _ _).alloc (Nat.le_refl _) (.cells #[.int .u8 202] 5))
          have HCA := own_below6 HRC2.out ((Below.refl _ _).alloc (Nat.le_refl _) (.cells #[.int .u8 202] 5))
          have HO3' : Hid (∃ xs, w2'.ownsRow w6.heap.size 5 1 v2' (n + (m + 1)) xs) := ⟨_, grow_to ho2' (by omega)⟩
          have HB3' : Hid (Below w6.heap.size w13 w2') := own_grown (HBE2.out.alloc (by omega) _) hg2' HOA (by simp; omega)
          have HC3' : Hid (w2'.ownsRow w7.heap.size 5 1 vb n (P.1.map (Value.int .u8))) := own_keep6 HCA hg2' (fun j hj => HNE2.out j hj)
          have HN3' : Hid (∀ j, vb.ownBlock = some j → v2'.ownBlock ≠ some j) := fun j hj h => by
            rcases hst2' j h with q | q
            · exact HNE2.out j hj q
            · have := (HRC2.out.lt j hj).2; simp at q; omega
          go_roundw
          case rel => exact ⟨m + 1, by omega, by go_num, HO3'.out, HB3'.out, HC3'.out, HN3'.out⟩
          case measure => simp [intOf]; omega
        · have hmt' : ¬ (m : Int) < 40 := by omega
          obtain rfl : m = 40 := by omega
          obtain ⟨r2, hr2⟩ : ∃ r2 : Rc, r2 = ⟨r.kind, r.org, r.num, r.peer, r.srv, r.off, r.red, r.size, r.how, List.replicate ns (-8, 0), List.replicate nd 7⟩ := ⟨_, rfl⟩
          have HCC : Hid (∀ x y, rcC r x y = rcC r2 x y) := fun x y => by rw [hr2]
          have hl14 : Lnd wr w3.heap.size gd gs ns nd r2.spans r2.data := by rw [hr2]; exact HL13.out.under HBE2.out (by omega) (by omega)
          have HL14 : Hid (Lnd wr w3.heap.size gd gs ns nd r2.spans r2.data) := hl14
          have HBw : Hid (Below w.heap.size w wr) := HB13.out.trans (HBE2.out.mono (by omega))
          have HQw : Hid (wr.heap[w4.heap.size]? = some (rcO r (.slice (some ⟨gs, 0, none⟩) ns (ns + 2)) (.slice (some ⟨gd, 0, none⟩) nd (nd + 2)))) := (HBE2.out.block _ (by omega)).trans HQ13.out
          have HOw : Hid (wr.ownsRow w1.heap.size 5 1 (.slice aw n cw) n (P.1.map (Value.int .u8))) := by
            have h1 := own_under HO13.out HBE2.out (fun k hk => by have := HWK.out k hk; omega)
            rw [HVW.out] at h1; exact h1
          have HCw : Hid (wr.ownsRow w7.heap.size 5 1 (.slice ab n cb) n (P.1.map (Value.int .u8))) := by
            have h1 := HRC2.out; rw [HVB.out] at h1; exact h1
          have hsh : ∃ a cap, u9 = .slice a (n + 40) cap := by
            obtain ⟨_, ⟨rfl, h0⟩ | ⟨g, cap, cur, rfl, _⟩⟩ := HRA2.out
            · omega
            · exact ⟨_, _, rfl⟩
          obtain ⟨a9, c9', rfl⟩ := hsh
          clear hl14 HL13 HBE2 HRC2 HRA2 HNE2 hr2
          go_upto_region 24 with (go_at_call 20; refine (sameBytes_eq ab aw P.1 n cb cw _ HN.out (by omega) (own_lies HCw.out).1 (own_lies HOw.out).1).mono ?_; rintro e w20 ⟨rfl, hb20⟩; have HB20 : Hid (Below w.heap.size w w20) := HBw.out.trans (hb20.mono HBw.out.size); have HL20 : Hid (Lnd w20 w3.heap.size gd gs ns nd r2.spans r2.data) := HL14.out.below hb20; have HQ20 : Hid (w20.heap[w4.heap.size]? = some (rcO r (.slice (some ⟨gs, 0, none⟩) ns (ns + 2)) (.slice (some ⟨gd, 0, none⟩) nd (nd + 2)))) := (hb20.block _ (Array.getElem?_eq_some_iff.mp HQw.out).1).trans HQw.out; obtain ⟨c0, c1, c2, c3, c4, c5, c6, c7, c8, c9, c10⟩ := rc_cells HQ20.out; clear hb20)
          have HLN2 : Hid ((prR r2).1.length ≤ 700001) := prR_len r2
          obtain ⟨P2, hP2⟩ : ∃ P2, P2 = prR r2 := ⟨_, rfl⟩
          have HPE2 : Hid (P2 = prR r2) := hP2
          have hpl2 : P2.1.length ≤ 700001 := by rw [hP2]; exact HLN2.out
          clear hP2 HLN2
          have HPA : Hid (∀ W, RIn W r2 (some ⟨gs, 0, none⟩) (some ⟨gd, 0, none⟩) ns nd (ns + 2) (nd + 2) → Calls Tryd.prog 15 #[.agg (rcC r (.slice (some ⟨gs, 0, none⟩) ns (ns + 2)) (.slice (some ⟨gd, 0, none⟩) nd (nd + 2)))] W (PrPost P2 W)) := fun W hW => by rw [HCC.out, HPE2.out]; exact print2_any r2 _ _ _ _ _ _ W hW
          have HPB : Hid (∀ W, Tab6 W → RIn W r2 (some ⟨gs, 0, none⟩) (some ⟨gd, 0, none⟩) ns nd (ns + 2) (nd + 2) → Calls Tryd.prog 19 #[.agg (rcC r (.slice (some ⟨gs, 0, none⟩) ns (ns + 2)) (.slice (some ⟨gd, 0, none⟩) nd (nd + 2)))] W (PrPost P2 W)) := fun W hT hW => by rw [HCC.out, HPE2.out]; exact rprint_any r2 _ _ _ _ _ _ W hT hW
          go_upto_region 26 with (first
            | (go_at_call 15; refine (HPA.out _ HL20.out.rin).mono ?_; rintro e w21 ⟨v21, rfl, ho21, hb21⟩; have HB21 : Hid (Below w.heap.size w w21) := HB20.out.trans (hb21.mono HB20.out.size); have HL21 : Hid (Lnd w21 w3.heap.size gd gs ns nd r2.spans r2.data) := HL20.out.below hb21; have HQ21 : Hid (w21.heap[w4.heap.size]? = some (rcO r (.slice (some ⟨gs, 0, none⟩) ns (ns + 2)) (.slice (some ⟨gd, 0, none⟩) nd (nd + 2)))) := (hb21.block _ (Array.getElem?_eq_some_iff.mp HQ20.out).1).trans HQ20.out; clear c0 c1 c2 c3 c4 c5 c6 c7 c8 c9 c10; obtain ⟨d0, d1, d2, d3, d4, d5, d6, d7, d8, d9, d10⟩ := rc_cells HQ21.out; have HO21 : Hid (w21.ownsRow w20.heap.size 5 1 v21 P2.1.length (P2.1.map (Value.int .u8))) := ho21; clear ho21 hb21)
            | (go_at_call 19; refine (HPB.out _ (HTB.out _ HB21.out) HL21.out.rin).mono ?_; rintro e w22 ⟨v22, rfl, ho22, hb22⟩; have HB22 : Hid (Below w.heap.size w w22) := HB21.out.trans (hb22.mono HB21.out.size); have HO22 : Hid (w22.ownsRow w20.heap.size 5 1 v21 P2.1.length (P2.1.map (Value.int .u8))) := own_below6 HO21.out hb22; have HO23 : Hid (w22.ownsRow w21.heap.size 5 1 v22 P2.1.length (P2.1.map (Value.int .u8))) := ho22; clear d0 d1 d2 d3 d4 d5 d6 d7 d8 d9 d10; clear ho22 hb22))
          obtain ⟨a21, c21, hv21, hl21, _⟩ := row_sh HO22.out
          obtain ⟨a22, c22, hv22, hl22, _⟩ := row_sh HO23.out
          have HL22 : Hid (Lies .u8 w22 a22 P2.1) := hl22
          have HL2W : Hid (Lies .u8 w22 a21 P2.1) := hl21
          rw [hv21, hv22]
          clear hl21 hl22 hv21 hv22 HO22 HO23 HO21
          go_wp2_with (go_at_call 20; refine (sameBytes_eq a22 a21 P2.1 P2.1.length c22 c21 _ rfl (by omega) HL22.out HL2W.out).mono ?_; rintro e w24 ⟨rfl, hb24⟩)
          go_ret
          exact ⟨rfl, HB22.out.trans (hb24.mono HB22.out.size)⟩
end Go.Proofs.YtmbmoadhgmlabafDoor
