import Derived.Test.YtjolflpmeodnaagDoorRcSui
namespace Go.Proofs.YtjolflpmeodnaagDoor
open Go.RowKit

/-- May a record be? -/
def mayB6 (r : Rc) : Bool := (kf r.kind != 0) && (allowB (kf r.kind) r && suitB r)
theorem okN_bd {f : Int} {i : Nat} {n : Int} (h : okN f i n = true) : 0 ≤ n ∧ n ≤ 4611686018427387903 := by
  unfold okN at h
  split at h
  · unfold numB at h
    split at h
    · simp at h; omega
    · split at h
      · simp at h; omega
      · simp at h; omega
  · simp at h; omega
theorem okNs_at {f : Int} {r : Rc} {k i : Nat} (h : okNs f r k = true) (hi : i < k) : okN f i (nmA r i) = true := by
  unfold okNs at h
  rw [List.all_eq_true] at h
  exact h i (List.mem_range.mpr hi)
theorem allow_nums {f : Int} {r : Rc} (h : allowB f r = true) : okNs f r 8 = true := by
  unfold allowB at h
  rw [Bool.and_eq_true] at h
  exact h.1

set_option maxRecDepth 100000 in
set_option maxHeartbeats 2000000 in
theorem mayBe_any (r : Rc) (sa da : Option Addr) (ns nd sc dc : Nat) (w : World) (hT : Tab6 w) (hns : r.spans.length = ns) (hnd : r.data.length = nd) (hm : nd ≤ 140737488355328) (hs : C.Ls w (.slice sa ns sc) r.spans) :
    Calls Tryd.prog 18 #[.agg (rcC r (.slice sa ns sc) (.slice da nd dc))] w fun e w' => e = .returned (.bool (mayB6 r)) ∧ Below w.heap.size w w' := by
  have HB : Hid (Below w.heap.size w (w.alloc (rcO r (.slice sa ns sc) (.slice da nd dc)))) := (Below.refl _ _).alloc (Nat.le_refl _) _
  have HX : Hid ((w.alloc (rcO r (.slice sa ns sc) (.slice da nd dc))).heap[w.heap.size]? = some (rcO r (.slice sa ns sc) (.slice da nd dc))) := heap_new6 w _
  have HF : Hid (Calls Tryd.prog 34 #[.int .i64 r.kind] (w.alloc (rcO r (.slice sa ns sc) (.slice da nd dc))) fun e w' => e = .returned (.int .u16 (kf r.kind)) ∧ (w.alloc (rcO r (.slice sa ns sc) (.slice da nd dc))) = w') := fieldsOf_any r.kind _ (hT.below HB.out (tab6_pos hT))
  have HA : Hid (∀ W, Calls Tryd.prog 35 #[.int .u16 (kf r.kind), .agg (rcC r (.slice sa ns sc) (.slice da nd dc))] W fun e w' => e = .returned (.bool (allowB (kf r.kind) r)) ∧ Below W.heap.size W w') := fun W => by
    have := allow_any (kf r.kind) r sa da sc dc W
    rw [hns, hnd] at this; exact this
  have HS : Hid (allowB (kf r.kind) r = true → ∀ W, Below w.heap.size w W → Calls Tryd.prog 36 #[.agg (rcC r (.slice sa ns sc) (.slice da nd dc))] W fun e w' => e = .returned (.bool (suitB r)) ∧ Below W.heap.size W w') := fun h W hW => suits_any r sa da ns nd sc dc W hns hnd hm (hs.below hW) (okN_bd (i := 4) (okNs_at (allow_nums h) (by omega)))
  have HM : Hid (mayB6 r = ((kf r.kind != 0) && (allowB (kf r.kind) r && suitB r))) := rfl
  clear hT hs hns hnd
  generalize kf r.kind = f at *
  generalize mayB6 r = M at *
  generalize suitB r = S at *
  generalize allowB f r = A at *
  by_cases hf : f = 0
  · subst hf
    rw [HM.out]
    clear HM HS HA
    go_enter Tryd.func18, Tryd.ntmps18
    go_wp2_with (go_at_call 34; refine HF.out.mono ?_; rintro e w1 ⟨rfl, rfl⟩)
    go_ret
    exact ⟨rfl, HB.out⟩
  · have hf' : (f != 0) = true := by simpa using hf
    rw [hf', Bool.true_and] at HM
    rw [HM.out]
    clear HM
    cases A with
    | false =>
      clear HS
      go_enter Tryd.func18, Tryd.ntmps18
      go_wp2_with (first | (go_at_call 34; refine HF.out.mono ?_; rintro e w1 ⟨rfl, rfl⟩) | (go_at_call 35; refine (HA.out _).mono ?_; rintro e w2 ⟨rfl, hb2⟩))
      go_ret
      exact ⟨rfl, HB.out.trans (hb2.mono HB.out.size)⟩
    | true =>
      have HS' : Hid (∀ W, Below w.heap.size w W → Calls Tryd.prog 36 #[.agg (rcC r (.slice sa ns sc) (.slice da nd dc))] W fun e w' => e = .returned (.bool S) ∧ Below W.heap.size W w') := HS.out rfl
      clear HS
      go_enter Tryd.func18, Tryd.ntmps18
      go_wp2_with (first | (go_at_call 34; refine HF.out.mono ?_; rintro e w1 ⟨rfl, rfl⟩) | (go_at_call 35; refine (HA.out _).mono ?_; rintro e w2 ⟨rfl, hb2⟩; have HB2 : Hid (Below w.heap.size w w2) := HB.out.trans (hb2.mono HB.out.size); have HX2 : w2.heap[w.heap.size]? = some (rcO r (.slice sa ns sc) (.slice da nd dc)) := (hb2.block _ (by simp)).trans HX.out; obtain ⟨c0, c1, c2, c3, c4, c5, c6, c7, c8, c9, c10⟩ := rc_cells HX2; clear hb2 HX2) | (go_at_call 36; refine (HS'.out _ HB2.out).mono ?_; rintro e w3 ⟨rfl, hb3⟩))
      go_ret
      exact ⟨by simp, HB2.out.trans (hb3.mono HB2.out.size)⟩

/-- Spans as bytes. -/
def spB1 (p : Int × Int) : List Int := enc p.1 ++ enc (p.2 - p.1)
def spB (l : List (Int × Int)) : List Int := enc l.length ++ l.flatMap spB1
def SpOk (l : List (Int × Int)) : Prop := ∀ p ∈ l, 0 ≤ p.1 ∧ p.1 ≤ p.2 ∧ p.2 ≤ 4611686018427387903
theorem enc_len' {n : Int} (h0 : 0 ≤ n) (h1 : n ≤ 18446744073709551615) : (enc n).length = sz n ∧ sz n ≤ 10 := by
  have := sz_bounds n h0 h1
  exact ⟨enc_length n h0 h1, by omega⟩
theorem flat_len {l : List (Int × Int)} (h : SpOk l) : (l.flatMap spB1).length ≤ 20 * l.length := by
  induction l with
  | nil => simp
  | cons p r ih =>
    have hp := h p (List.mem_cons_self ..)
    have h1 := enc_len' (n := p.1) hp.1 (by omega)
    have h2 := enc_len' (n := p.2 - p.1) (by omega) (by omega)
    have h3 := ih (fun q hq => h q (List.mem_cons_of_mem _ hq))
    simp only [List.flatMap_cons, List.length_append, List.length_cons, spB1]
    omega

theorem grow_to {w : World} {base n m : Nat} {v : Value} {xs : List Value} {e : TypeId} (h : w.ownsRow base e 1 v n xs) (hn : n = m) : w.ownsRow base e 1 v m xs := hn ▸ h

/-- Where spans that came in lie, whatever is written above. -/
def SpIn (w0 : World) (a : Option Addr) (l : List (Int × Int)) : Prop := ∀ W, Below w0.heap.size w0 W → C.Spa W a l

set_option maxRecDepth 100000 in
set_option maxHeartbeats 2000000 in
theorem putSpans_any (w0 : World) (v : Value) (m : Nat) (xs : List Value) (a : Option Addr) (l : List (Int × Int)) (n c : Nat) (w : World) (hb : Below w0.heap.size w0 w) (hown : w.ownsRow w0.heap.size 5 1 v m xs) (hm : m ≤ 100000)
    (hn : l.length = n) (hl : n ≤ 500) (hok : SpOk l) (hs : SpIn w0 a l) :
    Calls Tryd.prog 40 #[v, .slice a n c] w fun e w' => ∃ v', e = .returned v' ∧ w'.ownsRow w0.heap.size 5 1 v' (m + (spB l).length) (xs ++ (spB l).map (Value.int .u8)) ∧ Below w0.heap.size w0 w' ∧ Keeps8 w w' := by
  have hsz := hb.size
  have he := enc_len' (n := (n : Int)) (by omega) (by omega)
  have HP := putNumber_any v m xs w0.heap.size (n : Int) w (by omega) (by omega) hown hsz (by omega)
  have HB0 : Hid (Below w0.heap.size w0 w) := hb
  have HS : Hid (SpIn w0 a l) := hs
  have HN : Hid (l.length = n) := hn
  have HOK : Hid (SpOk l) := hok
  have HE : Hid ((enc (n : Int)).length = sz n) := he.1
  have hsz10 := he.2
  clear hown hb hs hn hok he
  go_enter Tryd.func40, Tryd.ntmps40
  go_wp2_with fail
  refine HP.mono ?_
  rintro e w1 ⟨v1, rfl, ho1, hb1, hk1⟩
  have HO1 : Hid (w1.ownsRow w0.heap.size 5 1 v1 (m + (enc (n : Int) ++ (l.take 0).flatMap spB1).length) (xs ++ (enc (n : Int) ++ (l.take 0).flatMap spB1).map (Value.int .u8))) := by
    simp only [List.take_zero, List.flatMap_nil, List.append_nil]
    exact grow_to ho1 (by rw [HE.out])
  have HB1 : Hid (Below w0.heap.size w0 w1) := HB0.out.trans hb1
  have HK1 : Hid (Keeps8 w w1) := hk1
  clear HP ho1 hb1 HB0 hk1
  go_wp2_with fail
  go_loopw [0, 13] (fun b i wr => ∃ k : Nat, k ≤ n ∧ i = .int .i64 k ∧ wr.ownsRow w0.heap.size 5 1 b (m + (enc (n : Int) ++ (l.take k).flatMap spB1).length) (xs ++ (enc (n : Int) ++ (l.take k).flatMap spB1).map (Value.int .u8)) ∧ Below w0.heap.size w0 wr ∧ Keeps8 w wr) (fun _ i _ => n - (intOf i).toNat)
  case atStart => exact ⟨0, Nat.zero_le _, rfl, HO1.out, HB1.out, HK1.out⟩
  case round =>
    obtain ⟨k, hk, rfl, ho, hb, hkp⟩ := hrel
    have HKP : Hid (Keeps8 w wr) := hkp
    have HO : Hid (wr.ownsRow w0.heap.size 5 1 u0 (m + (enc (n : Int) ++ (l.take k).flatMap spB1).length) (xs ++ (enc (n : Int) ++ (l.take k).flatMap spB1).map (Value.int .u8))) := ho
    have HB : Hid (Below w0.heap.size w0 wr) := hb
    have hfl : (enc (n : Int) ++ (l.take k).flatMap spB1).length ≤ 10010 := by
      have h1 := flat_len (l := l.take k) (fun p hp => HOK.out p (List.mem_of_mem_take hp))
      have h2 : (l.take k).length ≤ 500 := by rw [List.length_take, HN.out]; omega
      rw [List.length_append, HE.out]; omega
    clear ho hb HO1 HB1 hkp HK1
    by_cases hlt : k < n
    · have hlt' : (k : Int) < (n : Int) := by omega
      have hkl : k < l.length := by rw [HN.out]; exact hlt
      obtain ⟨p, hp⟩ : ∃ p, l[k]? = some p := ⟨_, List.getElem?_eq_getElem hkl⟩
      have hpo := HOK.out p (List.mem_of_getElem? hp)
      have HTK : Hid (enc (n : Int) ++ (l.take (k + 1)).flatMap spB1 = (enc (n : Int) ++ (l.take k).flatMap spB1) ++ (enc p.1 ++ enc (p.2 - p.1))) := by
        unfold Hid; rw [List.take_add_one, hp]; simp [spB1]
      rcases HS.out wr HB.out with h0 | ⟨g, off, rfl, hcell⟩
      · rw [h0] at hkl; simp at hkl
      obtain ⟨s1, s2⟩ := hcell k p hp
      obtain ⟨f, t⟩ := p
      simp only at s1 s2 hpo HTK
      obtain ⟨hp0, hp1, hp2⟩ := hpo
      have hef := enc_len' (n := f) hp0 (by omega)
      have het := enc_len' (n := t - f) (by omega) (by omega)
      have hwr : IntKind.i64.wrap (t - f) = t - f := by rw [IntKind.wrap_i64]; omega
      have HBa : Hid (Below w0.heap.size w0 (wr.alloc (.cells #[.int .i64 f, .int .i64 t] 52))) := HB.out.alloc HB.out.size _
      have HOa := own_below6 HO.out ((Below.refl _ _).alloc (Nat.le_refl _) (.cells #[.int .i64 f, .int .i64 t] 52))
      have HXa : Hid ((wr.alloc (.cells #[.int .i64 f, .int .i64 t] 52)).heap[wr.heap.size]? = some (.cells #[.int .i64 f, .int .i64 t] 52)) := heap_new6 wr _
      generalize enc (n : Int) ++ (l.take k).flatMap spB1 = bs at *
      have HP1 := putNumber_any u0 _ _ w0.heap.size f (wr.alloc (.cells #[.int .i64 f, .int .i64 t] 52)) hp0 (by omega) HOa HBa.out.size (by omega)
      clear hcell hp HOa
      go_wp2_with fail
      refine HP1.mono ?_
      rintro e w2 ⟨v2, rfl, ho2, hb2, hk2⟩
      have HB2 : Hid (Below w0.heap.size w0 w2) := HBa.out.trans hb2
      have HX2 : w2.heap[wr.heap.size]? = some (.cells #[.int .i64 f, .int .i64 t] 52) := hk2 _ _ _ _ HXa.out (by decide)
      have d0 : w2.cell? ⟨wr.heap.size, 0, none⟩ = some (.int .i64 f) := cell_of_row _ _ 0 _ _ _ HX2
      have d1 : w2.cell? ⟨wr.heap.size, 1, none⟩ = some (.int .i64 t) := cell_of_row _ _ 1 _ _ _ HX2
      have HK2 : Hid (Keeps8 w w2) := (HKP.out.trans (Keeps8.below ((Below.refl _ _).alloc (Nat.le_refl _) _))).trans hk2
      have HP2 := putNumber_any v2 _ _ w0.heap.size (t - f) w2 (by omega) (by omega) ho2 HB2.out.size (by omega)
      clear HP1 ho2 hb2 hk2 HX2 HBa HXa HO s1 s2 HKP
      go_wp2_with fail
      refine HP2.mono ?_
      rintro e w3 ⟨v3, rfl, ho3, hb3, hk3⟩
      have HB3 : Hid (Below w0.heap.size w0 w3) := HB2.out.trans hb3
      have HK3 : Hid (Keeps8 w w3) := HK2.out.trans hk3
      have HO3 : Hid (w3.ownsRow w0.heap.size 5 1 v3 (m + (enc (n : Int) ++ (l.take (k + 1)).flatMap spB1).length) (xs ++ (enc (n : Int) ++ (l.take (k + 1)).flatMap spB1).map (Value.int .u8))) := by
        unfold Hid
        rw [HTK.out]
        have h := grow_to ho3 (m := m + (bs ++ (enc f ++ enc (t - f))).length) (by simp only [List.length_append, hef.1, het.1]; omega)
        simp only [List.map_append, List.append_assoc] at h ⊢
        exact h
      clear HP2 ho3 hb3 hk3 HB2 HK2 d0 d1
      go_wp2
      go_roundw
      case rel => exact ⟨k + 1, by omega, by go_num, HO3.out, HB3.out, HK3.out⟩
      case measure => simp [intOf]; omega
    · obtain rfl : k = n := by omega
      rw [show l.take k = l from List.take_of_length_le (by rw [HN.out]; omega)] at HO
      have HSB : Hid (spB l = enc (k : Int) ++ l.flatMap spB1) := by unfold Hid spB; rw [HN.out]
      rw [← HSB.out] at HO
      go_wp2
      go_ret
      exact ⟨_, rfl, HO.out, HB.out, HKP.out⟩
end Go.Proofs.YtjolflpmeodnaagDoor
