import Derived.Test.YtjolflpmeodnaagDoorRcFrm
namespace Go.Proofs.YtjolflpmeodnaagDoor
open Go.RowKit

/-- The numbers as bytes. -/
def nmB (f : Int) (r : Rc) (k : Nat) : List Int := (List.range k).flatMap fun i => if hasB f i then enc (nmA r i) else []
theorem nmB_succ (f : Int) (r : Rc) (k : Nat) : nmB f r (k + 1) = nmB f r k ++ (if hasB f k then enc (nmA r k) else []) := by
  unfold nmB; rw [List.range_succ, List.flatMap_append]; simp
theorem nmB_len {f : Int} {r : Rc} (h : okNs f r 8 = true) : ∀ {k : Nat}, k ≤ 8 → (nmB f r k).length ≤ 10 * k
  | 0, _ => by simp [nmB]
  | k + 1, hk => by
    have h1 := nmB_len h (k := k) (by omega)
    have h2 := okN_bd (okNs_at h (show k < 8 by omega))
    have h3 := enc_len' (n := nmA r k) h2.1 (by omega)
    rw [nmB_succ, List.length_append]
    split <;> simp <;> omega
/-- A record's bytes. -/
def tailB (f : Int) (r : Rc) : List Int := (if hasB f 8 then spB r.spans else []) ++ (if hasB f 9 then enc r.data.length ++ r.data else [])
def prB (r : Rc) : List Int := r.kind :: (nmB (kf r.kind) r 8 ++ tailB (kf r.kind) r)

theorem kf_bd {k : Int} (h : kf k ≠ 0) : 0 ≤ k ∧ k < 13 := by
  unfold kf at h
  split at h
  · assumption
  · exact absurd rfl h

set_option maxRecDepth 100000 in
set_option maxHeartbeats 4000000 in
theorem form_any (r : Rc) (sa da : Option Addr) (ns nd sc dc : Nat) (w : World) (hT : Tab6 w) (hns : r.spans.length = ns) (hnd : r.data.length = nd) (hk0 : kf r.kind ≠ 0) (hok : okNs (kf r.kind) r 8 = true)
    (h8 : hasB (kf r.kind) 8 = true → ns ≤ 500 ∧ SpOk r.spans) (h9 : hasB (kf r.kind) 9 = true → nd ≤ 65536) (hs : SpIn w sa r.spans) (hd : ∀ W, Below w.heap.size w W → Lies .u8 W da r.data) (hn : da = none → nd = 0 ∧ dc = 0) :
    Calls Tryd.prog 19 #[.agg (rcC r (.slice sa ns sc) (.slice da nd dc))] w fun e w' => ∃ v', e = .returned v' ∧ w'.ownsRow w.heap.size 5 1 v' (prB r).length ((prB r).map (Value.int .u8)) ∧ Below w.heap.size w w' := by
  obtain ⟨i0, hi, hz0, hz1, hz2⟩ := info_parts Tryd.info_u8
  have hkb := kf_bd hk0
  have HB : Hid (Below w.heap.size w (w.alloc (rcO r (.slice sa ns sc) (.slice da nd dc)))) := (Below.refl _ _).alloc (Nat.le_refl _) _
  have HX : Hid ((w.alloc (rcO r (.slice sa ns sc) (.slice da nd dc))).heap[w.heap.size]? = some (rcO r (.slice sa ns sc) (.slice da nd dc))) := heap_new6 w _
  have HF : Hid (Calls Tryd.prog 34 #[.int .i64 r.kind] (w.alloc (rcO r (.slice sa ns sc) (.slice da nd dc))) fun e w' => e = .returned (.int .u16 (kf r.kind)) ∧ (w.alloc (rcO r (.slice sa ns sc) (.slice da nd dc))) = w') := fieldsOf_any r.kind _ (hT.below HB.out (tab6_pos hT))
  have HPR : Hid (prB r = r.kind :: (nmB (kf r.kind) r 8 ++ tailB (kf r.kind) r)) := rfl
  have HTL : Hid (tailB (kf r.kind) r = (if hasB (kf r.kind) 8 then spB r.spans else []) ++ (if hasB (kf r.kind) 9 then enc nd ++ r.data else [])) := by unfold Hid tailB; rw [hnd]
  have HOK : Hid (okNs (kf r.kind) r 8 = true) := hok
  have H8 : Hid (hasB (kf r.kind) 8 = true → ns ≤ 500 ∧ SpOk r.spans) := h8
  have H9 : Hid (hasB (kf r.kind) 9 = true → nd ≤ 65536) := h9
  have HS : Hid (SpIn w sa r.spans) := hs
  have HD : Hid (∀ W, Below w.heap.size w W → Lies .u8 W da r.data) := hd
  have HN : Hid (da = none → nd = 0 ∧ dc = 0) := hn
  have HNS : Hid (r.spans.length = ns) := hns
  have HND : Hid (r.data.length = nd) := hnd
  have hkw : IntKind.u8.wrap r.kind = r.kind := by simp only [IntKind.wrap, IntKind.bits, IntKind.signed]; simp; omega
  clear hT hok h8 h9 hs hd hn hns hnd hk0
  generalize kf r.kind = f at *
  go_enter Tryd.func19, Tryd.ntmps19
  go_wp2_with (go_at_call 34; refine HF.out.mono ?_; rintro e w1 ⟨rfl, rfl⟩)
  go_at_call 37
  refine (numbersOf_any r _ _ _).mono ?_
  rintro e w1 ⟨rfl, hb1⟩
  have HB1 : Hid (Below w.heap.size w w1) := (HB.out.alloc HB.out.size (Obj.cells #[Value.int IntKind.u8 r.kind] 5)).trans (hb1.mono (by simp; omega))
  have HX1 : Hid (w1.heap[w.heap.size]? = some (rcO r (.slice sa ns sc) (.slice da nd dc))) := (hb1.block _ (by simp; omega)).trans ((((Below.refl _ _).alloc (Nat.le_refl _) (Obj.cells #[Value.int IntKind.u8 r.kind] 5)).block _ (by simp)).trans HX.out)
  have HO1 : Hid (w1.ownsRow w.heap.size 5 1 (.slice (some ⟨w.heap.size + 1, 0, none⟩) 1 1) (1 + (nmB f r 0).length) (.int .u8 r.kind :: (nmB f r 0).map (Value.int .u8))) := by
    have h1 : ((w.alloc (rcO r (.slice sa ns sc) (.slice da nd dc))).alloc (.cells #[.int .u8 r.kind] 5)).ownsRow w.heap.size 5 1 (.slice (some ⟨(w.alloc (rcO r (.slice sa ns sc) (.slice da nd dc))).heap.size, 0, none⟩) 1 1) 1 [.int .u8 r.kind] := World.ownsRow_lit (w.alloc (rcO r (.slice sa ns sc) (.slice da nd dc))) #[.int .u8 r.kind] 1 (by simp) (by unfold maxLen; omega) rfl
    have h2 := own_below6 h1 hb1
    unfold Hid
    simpa [nmB] using h2
  clear HF hb1 HX HB
  go_wp2_with fail
  go_loopw [4, 16] (fun b i wr => ∃ k : Nat, k ≤ 8 ∧ i = .int .i64 k ∧ wr.ownsRow w.heap.size 5 1 b (1 + (nmB f r k).length) (.int .u8 r.kind :: (nmB f r k).map (Value.int .u8)) ∧ Below w.heap.size w wr ∧ wr.heap[w.heap.size]? = some (rcO r (.slice sa ns sc) (.slice da nd dc))) (fun _ i _ => 8 - (intOf i).toNat)
  case atStart => exact ⟨0, by omega, rfl, HO1.out, HB1.out, HX1.out⟩
  case round =>
    obtain ⟨k, hk, rfl, ho, hb, hx⟩ := hrel
    have HO : Hid (wr.ownsRow w.heap.size 5 1 u4 (1 + (nmB f r k).length) (.int .u8 r.kind :: (nmB f r k).map (Value.int .u8))) := ho
    have HBr : Hid (Below w.heap.size w wr) := hb
    have HXr : Hid (wr.heap[w.heap.size]? = some (rcO r (.slice sa ns sc) (.slice da nd dc))) := hx
    have hlen := nmB_len HOK.out hk
    clear ho hb hx HO1 HB1 HX1
    by_cases hlt : k < 8
    · have hlt' : (k : Int) < 8 := by omega
      have ik := index_nm r k hlt
      have hbd := okN_bd (okNs_at HOK.out hlt)
      have HSU : Hid (nmB f r (k + 1) = nmB f r k ++ (if hasB f k then enc (nmA r k) else [])) := nmB_succ f r k
      have he := enc_len' (n := nmA r k) hbd.1 (by omega)
      generalize nmA r k = n at *
      obtain ⟨b, hb⟩ : ∃ b, hasB f k = b := ⟨_, rfl⟩
      have hh : ∀ W, Calls Tryd.prog 38 #[.int .u16 f, .int .i64 k] W fun e w' => e = .returned (.bool b) ∧ W = w' := fun W => hb ▸ rhas_any f k W (by omega)
      rw [hb] at HSU
      have HH : Hid (∀ W, Calls Tryd.prog 38 #[.int .u16 f, .int .i64 k] W fun e w' => e = .returned (.bool b) ∧ W = w') := hh
      clear hh hb
      generalize nmB f r k = bs at *
      cases b with
      | false =>
        have HOn : Hid (wr.ownsRow w.heap.size 5 1 u4 (1 + (nmB f r (k + 1)).length) (.int .u8 r.kind :: (nmB f r (k + 1)).map (Value.int .u8))) := by
          unfold Hid; rw [HSU.out]; simpa using HO.out
        go_wp2_with (go_at_call 38; refine (HH.out _).mono ?_; rintro e w' ⟨rfl, rfl⟩)
        go_roundw
        case rel => exact ⟨k + 1, by omega, by go_num, HOn.out, HBr.out, HXr.out⟩
        case measure => simp [intOf]; omega
      | true =>
        have HP := putNumber_any u4 _ _ w.heap.size n wr hbd.1 hbd.2 HO.out HBr.out.size (by omega)
        go_wp2_with (first | (go_at_call 38; refine (HH.out _).mono ?_; rintro e w' ⟨rfl, rfl⟩) | (go_at_call 39; refine HP.mono ?_; rintro e w2 ⟨v2, rfl, ho2, hb2, hk2⟩))
        have HOn : Hid (w2.ownsRow w.heap.size 5 1 v2 (1 + (nmB f r (k + 1)).length) (.int .u8 r.kind :: (nmB f r (k + 1)).map (Value.int .u8))) := by
          unfold Hid
          rw [HSU.out]
          have h := grow_to ho2 (m := 1 + (bs ++ enc n).length) (by rw [List.length_append, he.1]; omega)
          simp only [if_true, List.map_append, List.cons_append] at h ⊢
          exact h
        have HX2 : Hid (w2.heap[w.heap.size]? = some (rcO r (.slice sa ns sc) (.slice da nd dc))) := hk2 _ _ _ _ HXr.out (by decide)
        go_roundw
        case rel => exact ⟨k + 1, by omega, by go_num, HOn.out, HBr.out.trans hb2, HX2.out⟩
        case measure => simp [intOf]; omega
    · obtain rfl : k = 8 := by omega
      have H8h : Hid (∀ W, Calls Tryd.prog 38 #[.int .u16 f, .int .i64 8] W fun e w' => e = .returned (.bool (hasB f 8)) ∧ W = w') := fun W => rhas_any f 8 W (by omega)
      have H9h : Hid (∀ W, Calls Tryd.prog 38 #[.int .u16 f, .int .i64 9] W fun e w' => e = .returned (.bool (hasB f 9)) ∧ W = w') := fun W => rhas_any f 9 W (by omega)
      generalize nmB f r 8 = bs at *
      generalize tailB f r = tl at *
      generalize hasB f 8 = b8 at *
      generalize hasB f 9 = b9 at *
      obtain ⟨_, _, _, _, _, _, _, _, _, c9, c10⟩ := rc_cells HXr.out
      cases b8 with
      | false =>
        cases b9 with
        | false =>
          have HE : Hid (prB r = r.kind :: bs) := by unfold Hid; rw [HPR.out, HTL.out]; simp
          go_wp2_with (first | (go_at_call_of 38 (Value.int .i64 8); refine (H8h.out _).mono ?_; rintro e w' ⟨rfl, rfl⟩) | (go_at_call_of 38 (Value.int .i64 9); refine (H9h.out _).mono ?_; rintro e w' ⟨rfl, rfl⟩))
          go_ret
          refine ⟨_, rfl, ?_, HBr.out⟩
          rw [HE.out]
          exact grow_to HO.out (by simp; omega)
        | true =>
          have hnd9 := H9.out rfl
          have HE : Hid (prB r = r.kind :: (bs ++ (enc nd ++ r.data))) := by unfold Hid; rw [HPR.out, HTL.out]; simp
          have hel := enc_len' (n := (nd : Int)) (by omega) (by omega)
          have HP := putNumber_any u4 _ _ w.heap.size (nd : Int) wr (by omega) (by omega) HO.out HBr.out.size (by omega)
          go_wp2_with (first | (go_at_call_of 38 (Value.int .i64 8); refine (H8h.out _).mono ?_; rintro e w' ⟨rfl, rfl⟩) | (go_at_call_of 38 (Value.int .i64 9); refine (H9h.out _).mono ?_; rintro e w' ⟨rfl, rfl⟩) | (go_at_call 39; refine HP.mono ?_; rintro e w2 ⟨v2, rfl, ho2, hb2, hk2⟩; have HB2 : Hid (Below w.heap.size w w2) := HBr.out.trans hb2; have hs2 := HB2.out.size; obtain ⟨_, _, _, _, _, _, _, _, _, d9, d10⟩ := rc_cells (hk2 _ _ _ _ HXr.out (by decide)); clear hk2 hb2) | (at_builtin; refine append_any _ rfl _ _ 25 rfl w.heap.size 5 i0 (.int .u8 0) 1 Tryd.underlying25 hi hz0 hz1 hz2 rfl _ _ _ rfl ho2 .u8 _ _ _ r.data rfl HN.out HND.out (HD.out _ HB2.out) (by unfold maxLen; omega) (by omega) hs2 ?_; intro v3 w3 ho3 hg3))
          go_ret
          refine ⟨v3, rfl, ?_, own_grown HB2.out hg3 ho2 hs2⟩
          rw [HE.out]
          have h := grow_to ho3 (m := (r.kind :: (bs ++ (enc (nd : Int) ++ r.data))).length) (by simp only [List.length_cons, List.length_append, hel.1, HND.out]; omega)
          simp only [List.map_append, List.map_cons, List.cons_append, List.append_assoc] at h ⊢
          exact h
      | true =>
        have h8' := H8.out rfl
        have HPS := putSpans_any w u4 _ _ sa r.spans ns sc wr HBr.out HO.out (by omega) HNS.out h8'.1 h8'.2 HS.out
        have hsl : (spB r.spans).length ≤ 10010 := by
          have h1 := flat_len h8'.2
          have h2 := enc_len' (n := (r.spans.length : Int)) (by omega) (by rw [HNS.out]; omega)
          unfold spB
          rw [List.length_append, h2.1]
          rw [HNS.out] at h1 h2 ⊢
          omega
        generalize spB r.spans = ss at *
        cases b9 with
        | false =>
          have HE : Hid (prB r = r.kind :: (bs ++ ss)) := by unfold Hid; rw [HPR.out, HTL.out]; simp
          go_wp2_with (first | (go_at_call_of 38 (Value.int .i64 8); refine (H8h.out _).mono ?_; rintro e w' ⟨rfl, rfl⟩) | (go_at_call_of 38 (Value.int .i64 9); refine (H9h.out _).mono ?_; rintro e w' ⟨rfl, rfl⟩) | (go_at_call 40; refine HPS.mono ?_; rintro e w2 ⟨v2, rfl, ho2, hb2, hk2⟩))
          go_ret
          refine ⟨v2, rfl, ?_, hb2⟩
          rw [HE.out]
          have h := grow_to ho2 (m := (r.kind :: (bs ++ ss)).length) (by simp only [List.length_cons, List.length_append]; omega)
          simp only [List.map_append, List.map_cons, List.cons_append] at h ⊢
          exact h
        | true =>
          have hnd9 := H9.out rfl
          have HE : Hid (prB r = r.kind :: (bs ++ (ss ++ (enc nd ++ r.data)))) := by unfold Hid; rw [HPR.out, HTL.out]; simp
          have hel := enc_len' (n := (nd : Int)) (by omega) (by omega)
          go_wp2_with (first | (go_at_call_of 38 (Value.int .i64 8); refine (H8h.out _).mono ?_; rintro e w' ⟨rfl, rfl⟩) | (go_at_call_of 38 (Value.int .i64 9); refine (H9h.out _).mono ?_; rintro e w' ⟨rfl, rfl⟩) | (go_at_call 40; refine HPS.mono ?_; rintro e w4 ⟨v4, rfl, ho4, hb4, hk4⟩; have hs4 := hb4.size; have HX4 := hk4 _ _ _ _ HXr.out (by decide); obtain ⟨_, _, _, _, _, _, _, _, _, e9, e10⟩ := rc_cells HX4; clear hk4) | (go_at_call 39; refine (putNumber_any v4 _ _ w.heap.size (nd : Int) w4 (by omega) (by omega) ho4 hs4 (by omega)).mono ?_; rintro e w2 ⟨v2, rfl, ho2, hb2, hk2⟩; have HB2 : Hid (Below w.heap.size w w2) := hb4.trans hb2; have hs2 := HB2.out.size; obtain ⟨_, _, _, _, _, _, _, _, _, d9, d10⟩ := rc_cells (hk2 _ _ _ _ HX4 (by decide)); clear hk2 hb2) | (at_builtin; refine append_any _ rfl _ _ 25 rfl w.heap.size 5 i0 (.int .u8 0) 1 Tryd.underlying25 hi hz0 hz1 hz2 rfl _ _ _ rfl ho2 .u8 _ _ _ r.data rfl HN.out HND.out (HD.out _ HB2.out) (by unfold maxLen; omega) (by omega) hs2 ?_; intro v3 w3 ho3 hg3))
          go_ret
          refine ⟨v3, rfl, ?_, own_grown HB2.out hg3 ho2 hs2⟩
          rw [HE.out]
          have h := grow_to ho3 (m := (r.kind :: (bs ++ (ss ++ (enc (nd : Int) ++ r.data)))).length) (by simp only [List.length_cons, List.length_append, hel.1, HND.out]; omega)
          simp only [List.map_append, List.map_cons, List.cons_append, List.append_assoc] at h ⊢
          exact h
end Go.Proofs.YtjolflpmeodnaagDoor
