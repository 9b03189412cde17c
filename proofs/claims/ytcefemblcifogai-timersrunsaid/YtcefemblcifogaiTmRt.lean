import Derived.Test.YtcefemblcifogaiTmRn
import Derived.Deep.RegionHeld3
namespace Go.Proofs.Ytcefemblcifogai
open Go.RowKit Go.Maps
set_option linter.unusedVariables false

/-! ## A tick of the law's own table -/
def dn (h : Int) (x : Kx × Int) : Kx × Int := if hb h x.1.1 = true then x else (x.1, x.2 - 1)
theorem dn_fst (h : Int) (x : Kx × Int) : (dn h x).1 = x.1 := by unfold dn; split <;> rfl
structure Mx (R : Tl) (h : Int) (j : Nat) (R' : Tl) : Prop where
  get : ∀ i, R'[i]? = if i < j then (R[i]?).map (dn h) else R[i]?
theorem Mx.start (R : Tl) (h : Int) : Mx R h 0 R := ⟨fun i => by simp⟩
theorem Mx.len {R R' : Tl} {h : Int} {j : Nat} (H : Mx R h j R') : R'.length = R.length := by
  have h1 := H.get R.length
  have h2 := H.get R'.length
  have a1 : R[R.length]? = none := by simp
  have a2 : R'[R'.length]? = none := by simp
  rw [a1] at h1
  rw [a2] at h2
  have b1 : R'.length ≤ R.length := by
    have : R'[R.length]? = none := by rw [h1]; split <;> rfl
    simpa using this
  have b2 : R.length ≤ R'.length := by
    have : R[R'.length]? = none := by
      by_cases e : R'.length < j
      · rw [if_pos e] at h2; simpa using h2.symm
      · rw [if_neg e] at h2; exact h2.symm
    simpa using this
  omega
theorem Mx.done {R R' : Tl} {h : Int} (H : Mx R h R.length R') : R' = R.map (dn h) := by
  apply List.ext_getElem?
  intro i
  rw [H.get, List.getElem?_map]
  by_cases e : i < R.length
  · rw [if_pos e]
  · rw [if_neg e]
    have : R[i]? = none := by simpa using e
    rw [this]; rfl
theorem Mx.keys {R R' : Tl} {h : Int} {j : Nat} (H : Mx R h j R') : R'.map Prod.fst = R.map Prod.fst := by
  apply List.ext_getElem?
  intro i
  rw [List.getElem?_map, List.getElem?_map, H.get]
  split
  · cases R[i]? with
    | none => rfl
    | some x => simp [dn_fst]
  · rfl
theorem Mx.here {R R' : Tl} {h : Int} {j : Nat} (H : Mx R h j R') : R'[j]? = R[j]? := by rw [H.get, if_neg (by omega)]
theorem Mx.skip {R R' : Tl} {h : Int} {j : Nat} {x : Kx × Int} (H : Mx R h j R') (hx : R[j]? = some x) (hh : hb h x.1.1 = true) : Mx R h (j + 1) R' := by
  refine ⟨fun i => ?_⟩
  rw [H.get]
  by_cases e : i = j
  · subst e
    rw [if_neg (by omega), if_pos (by omega), hx]
    simp [dn, hh]
  · by_cases e2 : i < j
    · rw [if_pos e2, if_pos (by omega)]
    · rw [if_neg e2, if_neg (by omega)]
theorem Mx.set {R R' : Tl} {h : Int} {j : Nat} {x : Kx × Int} (H : Mx R h j R') (hx : R[j]? = some x) (hh : hb h x.1.1 = false) : Mx R h (j + 1) (R'.set j (x.1, x.2 - 1)) := by
  have hl : j < R'.length := by rw [H.len]; exact (List.getElem?_eq_some_iff.mp hx).1
  refine ⟨fun i => ?_⟩
  rw [List.getElem?_set]
  by_cases e : j = i
  · subst e
    rw [if_pos rfl, if_pos hl, if_pos (by omega), hx]
    simp [dn, hh]
  · rw [if_neg e, H.get]
    by_cases e2 : i < j
    · rw [if_pos e2, if_pos (by omega)]
    · rw [if_neg e2, if_neg (by omega)]
/-- How many run out. -/
def cnt (R : Tl) (h : Int) : Nat := (R.filter fun x => decide (x.2 = 1) && !hb h x.1.1).length
theorem cnt_step {R : Tl} {h : Int} {j : Nat} {x : Kx × Int} (hx : R[j]? = some x) : cnt (R.take (j + 1)) h = cnt (R.take j) h + if (decide (x.2 = 1) && !hb h x.1.1) = true then 1 else 0 := by
  unfold cnt
  rw [List.take_add_one, hx, List.filter_append, List.length_append]
  congr 1
  simp only [Option.toList_some, List.filter_cons, List.filter_nil]
  split <;> rfl
theorem cnt_le (R : Tl) (h : Int) (j : Nat) : cnt (R.take j) h ≤ j := Nat.le_trans (List.length_filter_le _ _) (by rw [List.length_take]; exact Nat.min_le_left _ _)

set_option maxHeartbeats 16000000 in
set_option maxRecDepth 100000 in
theorem rtick_any (pr top b2 : Nat) (R : Tl) (h : Int) (out : List Kx) (v : Value) (w : World) (hR : Rn w pr top R) (htb : top ≤ b2) (hV : KR w b2 v out) (hh : 0 ≤ h ∧ h < 8) (hl : R.length < 1099511627776) (hol : out.length < 1099511627776)
    (hok : ∀ x ∈ R, kW x.1 ∧ (1 ≤ x.1.1 ∧ x.1.1 ≤ 3) ∧ -4611686018427387904 ≤ x.2 ∧ x.2 ≤ 4611686018427387904) (hko : ∀ x ∈ out, kW x)
    (hall : ∀ x ∈ R, x.2 = 1 → hb h x.1.1 = false → x.1 ∈ out) (hord : out.Pairwise (fun x y => ltK x y = true)) (hlen : out.length = cnt R h) :
    Calls Try.prog 32 #[.pointer (some ⟨pr, 0, none⟩), .int .i64 h, v] w fun e w' => e = .returned (.bool true) ∧ Rn w' pr top (R.map (dn h)) ∧ Kq (fun g => pr ≤ g) w w' := by
  have HR0 : Hid (Rn w pr top R) := hR
  have HV0 : Hid (KR w b2 v out) := hV
  have HOk : Hid (∀ x ∈ R, kW x.1 ∧ (1 ≤ x.1.1 ∧ x.1.1 ≤ 3) ∧ -4611686018427387904 ≤ x.2 ∧ x.2 ≤ 4611686018427387904) := hok
  have HKo : Hid (∀ x ∈ out, kW x) := hko
  have HAll : Hid (∀ x ∈ R, x.2 = 1 → hb h x.1.1 = false → x.1 ∈ out) := hall
  have HOrd : Hid (out.Pairwise (fun x y => ltK x y = true)) := hord
  have HLen : Hid (out.length = cnt R h) := hlen
  obtain ⟨ao, co, rfl⟩ := hV.shape
  obtain ⟨m, hm⟩ : ∃ m, R.length = m := ⟨_, rfl⟩
  have HM : Hid (R.length = m) := hm
  obtain ⟨no, hno⟩ : ∃ m, out.length = m := ⟨_, rfl⟩
  have HNo : Hid (out.length = no) := hno
  have hml : m < 1099511627776 := by omega
  have hnl : no < 1099511627776 := by omega
  have hprw := hR.lt
  rw [hno] at HV0 ⊢
  clear hR hV hok hko hall hord hlen hl hol hm hno
  go_enter Try.func32, Try.ntmps32
  go_wp2
  go_loopw [7, 8] (fun v7 v8 wr => ∃ (j : Nat) (R' : Tl), v7 = .int .i64 (cnt (R.take j) h) ∧ v8 = .int .i64 j ∧ j ≤ m ∧ Mx R h j R' ∧ Rn wr pr top R' ∧ KR wr b2 (.slice ao no co) out ∧ Kq (fun g => pr ≤ g) w wr)
    (fun _ v _ => m - (intOf v).toNat)
  case atStart => exact ⟨0, R, by simp [cnt], rfl, by omega, Mx.start R h, HR0.out, HV0.out, Kq.refl _ _⟩
  case round =>
    obtain ⟨j, R', rfl, rfl, hj, hmx, hrn, hkr, hkq⟩ := hrel
    have HMx : Hid (Mx R h j R') := hmx
    have HRn : Hid (Rn wr pr top R') := hrn
    have HKR : Hid (KR wr b2 (.slice ao no co) out) := hkr
    have HKQ : Hid (Kq (fun g => pr ≤ g) w wr) := hkq
    obtain ⟨vk, vl, h1, h2, h3, h4, h5, h6⟩ := hrn.ex
    have lm : R'.length = m := by rw [hmx.len]; exact HM.out
    obtain ⟨ak, ck, rfl⟩ := h2.shape
    obtain ⟨al, cl, rfl⟩ := IR.shape h3
    rw [List.length_map, lm] at h1 h2 h4 h5
    rw [List.length_map, lm] at h1 h3 h4 h6
    have e5 : wr.cell? ⟨pr, 0, none⟩ = some (.slice ak m ck) := by simp [World.cell?, h1]
    have e6 : wr.cell? ⟨pr, 1, none⟩ = some (.slice al m cl) := by simp [World.cell?, h1]
    obtain ⟨cn, hcn⟩ : ∃ c, cnt (R.take j) h = c := ⟨_, rfl⟩
    have HCn : Hid (cnt (R.take j) h = cn) := hcn
    have hcl : cn ≤ j := by rw [← hcn]; exact cnt_le R h j
    rw [hcn]
    have HP1 : Hid (wr.heap[pr]? = some (.cells #[.slice ak m ck, .slice al m cl] 60 (0, 0))) := h1
    have HK2 : Hid (KR wr (pr + 1) (.slice ak m ck) (R'.map Prod.fst)) := h2
    have HI3 : Hid (IR wr (pr + 1) (.slice al m cl) (R'.map Prod.snd)) := h3
    have HN4 : Hid (∀ g, (Value.slice ak m ck).ownBlock = some g → (Value.slice al m cl).ownBlock ≠ some g) := h4
    have HT5 : Hid ((∀ g, (Value.slice ak m ck).ownBlock = some g → g < top) ∧ (∀ g, (Value.slice al m cl).ownBlock = some g → g < top)) := ⟨h5, h6⟩
    have HLm : Hid (R'.length = m) := lm
    clear hmx hrn hkr hkq h1 h2 h3 h4 h5 h6 lm hcn
    by_cases hjm : j = m
    · subst hjm
      have HRd : Hid (Rn wr pr top (R.map (dn h))) := by
        have h8 : R' = R.map (dn h) := Mx.done (by rw [HM.out]; exact HMx.out)
        rw [← h8]; exact HRn.out
      have hcn2 : cn = no := by
        rw [← HCn.out, ← HNo.out, HLen.out, ← HM.out, List.take_length]
      subst hcn2
      clear HCn HMx HRn HP1 HK2 HI3 HN4 HT5 HLm
      go_wp2
      go_loopw [12] (fun v12 wr3 => ∃ k : Nat, v12 = .int .i64 k ∧ 1 ≤ k ∧ (k ≤ cn ∨ k = 1) ∧ Rn wr3 pr top (R.map (dn h)) ∧ KR wr3 b2 (.slice ao cn co) out ∧ Kq (fun g => pr ≤ g) w wr3)
        (fun v _ => cn - (intOf v).toNat)
      case atStart => exact ⟨1, rfl, by omega, .inr rfl, HRd.out, HKR.out, HKQ.out⟩
      case round =>
        obtain ⟨k, rfl, hk1, hk2, hrn3, hkr3, hkq3⟩ := hrel
        have HRn3 : Hid (Rn _ pr top (R.map (dn h))) := hrn3
        have HKR3 : Hid (KR _ b2 (.slice ao cn co) out) := hkr3
        have HKQ3 : Hid (Kq (fun g => pr ≤ g) w _) := hkq3
        clear hrn3 hkr3 hkq3 HKR HKQ HRd e5 e6
        by_cases hkn : k < cn
        · have hkz : (k : Int) < (cn : Int) := by omega
          obtain ⟨km, hkm⟩ : ∃ x, x = k - 1 := ⟨_, rfl⟩
          have hwm : IntKind.i64.wrap ((k : Int) - 1) = (km : Int) := by rw [IntKind.wrap_i64]; omega
          have hwk : IntKind.i64.wrap ((k : Int) + 1) = (k : Int) + 1 := by rw [IntKind.wrap_i64]; omega
          have hmz : (km : Int) < (cn : Int) := by omega
          have hkl : k < out.length := by rw [HNo.out]; omega
          have hml3 : km < out.length := by rw [HNo.out]; omega
          obtain ⟨a, ha⟩ : ∃ y, out[km]? = some y := ⟨_, List.getElem?_eq_getElem hml3⟩
          obtain ⟨b, hb'⟩ : ∃ y, out[k]? = some y := ⟨_, List.getElem?_eq_getElem hkl⟩
          have hlt : ltK a b = true := by
            have h8 := List.pairwise_iff_getElem.mp HOrd.out km k hml3 hkl (by omega)
            rw [List.getElem?_eq_getElem hml3] at ha
            rw [List.getElem?_eq_getElem hkl] at hb'
            rw [← Option.some.inj ha, ← Option.some.inj hb']
            exact h8
          obtain ⟨go, capo, eo, hgo1, hgo2, _⟩ := HKR3.out.some (by omega)
          obtain ⟨rfl, hno2, rfl⟩ : ao = some ⟨go, 0, none⟩ ∧ cn = out.length ∧ co = capo := by simpa using eo
          have hkd := HKR3.out.keep (S := fun _ => False) (Kq.refl _ _).drew (fun _ _ h => h)
          obtain ⟨p0, p1, p2, p3, p4⟩ := hkd.cells ha
          obtain ⟨q0, q1, q2, q3, q4⟩ := hkd.cells hb'
          have hcl2 := less_any a b wr.drew
          rw [hlt] at hcl2
          obtain ⟨a0, a1, a2, a3, a4⟩ := a
          obtain ⟨b0, b1, b2', b3, b4⟩ := b
          simp only at p0 p1 p2 p3 p4 q0 q1 q2 q3 q4
          have HAB : Hid (out[km]? = some (a0, a1, a2, a3, a4) ∧ out[k]? = some (b0, b1, b2', b3, b4)) := ⟨ha, hb'⟩
          clear ha hb' hlt eo hno2 hkd hkm hml3 hkl
          go_wp2_with fail
          go_region_held3 (fun V => V.cell? ⟨go, km * 5, none⟩ = some (.int .i64 a0) ∧ V.cell? ⟨go, km * 5 + 1, none⟩ = some (.int .i64 a1) ∧ V.cell? ⟨go, km * 5 + 2, none⟩ = some (.int .i64 a2) ∧ V.cell? ⟨go, km * 5 + 3, none⟩ = some (.int .i64 a3) ∧ V.cell? ⟨go, km * 5 + 4, none⟩ = some (.int .i64 a4) ∧ V.cell? ⟨go, k * 5, none⟩ = some (.int .i64 b0) ∧ V.cell? ⟨go, k * 5 + 1, none⟩ = some (.int .i64 b1) ∧ V.cell? ⟨go, k * 5 + 2, none⟩ = some (.int .i64 b2') ∧ V.cell? ⟨go, k * 5 + 3, none⟩ = some (.int .i64 b3) ∧ V.cell? ⟨go, k * 5 + 4, none⟩ = some (.int .i64 b4))
            (first | (exact ⟨p0, p1, p2, p3, p4, q0, q1, q2, q3, q4⟩) | (exact HB9.out))
            (first | (go_at_call 54
                      refine hcl2.mono ?_
                      rintro e w9 ⟨rfl, hb9⟩
                      have HKR9 : Hid (KR w9 b2 (.slice (some ⟨go, 0, none⟩) cn co) out) := HKR3.out.keep (S := fun _ => False) ((Kq.refl _ _).drew.then (Kq.of_below (S := fun _ => False) hb9) (fun _ _ h => h)) (fun _ _ h => h)
                      have HRn9 : Hid (Rn w9 pr top (R.map (dn h))) := HRn3.out.keep (S := fun _ => False) ((Kq.refl _ _).drew.then (Kq.of_below (S := fun _ => False) hb9) (fun _ _ h => h)) (fun _ h => h.elim)
                      have HKQ9 : Hid (Kq (fun g => pr ≤ g) w w9) := HKQ3.out.drew.then (Kq.of_below (S := fun _ => False) hb9) (fun _ _ h => h.elim)
                      have HB9 : Hid (w9.cell? ⟨go, km * 5, none⟩ = some (.int .i64 a0) ∧ w9.cell? ⟨go, km * 5 + 1, none⟩ = some (.int .i64 a1) ∧ w9.cell? ⟨go, km * 5 + 2, none⟩ = some (.int .i64 a2) ∧ w9.cell? ⟨go, km * 5 + 3, none⟩ = some (.int .i64 a3) ∧ w9.cell? ⟨go, km * 5 + 4, none⟩ = some (.int .i64 a4) ∧ w9.cell? ⟨go, k * 5, none⟩ = some (.int .i64 b0) ∧ w9.cell? ⟨go, k * 5 + 1, none⟩ = some (.int .i64 b1) ∧ w9.cell? ⟨go, k * 5 + 2, none⟩ = some (.int .i64 b2') ∧ w9.cell? ⟨go, k * 5 + 3, none⟩ = some (.int .i64 b3) ∧ w9.cell? ⟨go, k * 5 + 4, none⟩ = some (.int .i64 b4)) := by
                        obtain ⟨p0, p1, p2, p3, p4⟩ := HKR9.out.cells HAB.out.1
                        obtain ⟨q0, q1, q2, q3, q4⟩ := HKR9.out.cells HAB.out.2
                        exact ⟨p0, p1, p2, p3, p4, q0, q1, q2, q3, q4⟩
                      clear hb9))
          all_goals (
            clear p0 p1 p2 p3 p4 q0 q1 q2 q3 q4 hcl2 HB9 HAB
            go_wp2
            exact ⟨⟨k + 1, by simp, by omega, .inl (by omega), HRn9.out, HKR9.out, HKQ9.out⟩, by simp [intOf]; omega⟩)
        · have hkz : ¬ (k : Int) < (cn : Int) := by omega
          go_wp2
          go_ret
          exact ⟨rfl, HRn3.out, HKQ3.out⟩
    · have hjz : (j : Int) < (m : Int) := by omega
      obtain ⟨⟨x, c⟩, hx⟩ : ∃ x, R[j]? = some x := ⟨_, List.getElem?_eq_getElem (by rw [HM.out]; omega)⟩
      have hxm := List.mem_of_getElem? hx
      obtain ⟨hkx, ⟨hp1, hp3⟩, hc1, hc2⟩ := HOk.out _ hxm
      have hx' : R'[j]? = some (x, c) := by rw [HMx.out.here]; exact hx
      have hxk : (R'.map Prod.fst)[j]? = some x := by rw [List.getElem?_map, hx']; rfl
      have hxs : (R'.map Prod.snd)[j]? = some c := by rw [List.getElem?_map, hx']; rfl
      obtain ⟨gk, capk, ek, hgk1, hgk2, _⟩ := HK2.out.some (by rw [List.length_map, HLm.out]; omega)
      obtain ⟨rfl, hmm, rfl⟩ : ak = some ⟨gk, 0, none⟩ ∧ m = (R'.map Prod.fst).length ∧ ck = capk := by simpa using ek
      obtain ⟨gl, capl, el, hgl1, hgl2⟩ := IR.some HI3.out (by rw [List.length_map, HLm.out]; omega)
      obtain ⟨rfl, hml2, rfl⟩ : al = some ⟨gl, 0, none⟩ ∧ m = (R'.map Prod.snd).length ∧ cl = capl := by simpa using el
      obtain ⟨x0, x1, x2, x3, x4⟩ := x
      obtain ⟨q0, q1, q2, q3, q4⟩ := HK2.out.cells hxk
      simp only at q0 q1 q2 q3 q4 hp1 hp3 hc1 hc2 hkx
      have r0 : wr.cell? ⟨gl, j, none⟩ = some (.int .i64 c) := IR.cell HI3.out hxs
      have HI3' : Hid (wr.ownsRow (pr + 1) 3 1 (.slice (some ⟨gl, 0, none⟩) m cl) m ((R'.map Prod.snd).map (Value.int .i64))) := by
        have := HI3.out
        unfold IR at this
        rw [List.length_map, HLm.out] at this
        exact this
      have fz0 : wr.frozen? ⟨gl, j, none⟩ = false := World.ownsRow.frozenAt HI3'.out j
      have hgp : ¬ pr = gl := by omega
      have hgg : ¬ gk = gl := fun e => HN4.out gk rfl (by rw [e]; rfl)
      have HX : Hid (R[j]? = some ((x0, x1, x2, x3, x4), c)) := hx
      have HXm : Hid (((x0, x1, x2, x3, x4), c) ∈ R) := hxm
      have HXk : Hid ((R'.map Prod.fst)[j]? = some (x0, x1, x2, x3, x4)) := hxk
      have hwj : IntKind.i64.wrap ((j : Int) + 1) = (j : Int) + 1 := by rw [IntKind.wrap_i64]; omega
      have hH := held_any h x0 wr hh ⟨hp1, hp3⟩
      obtain ⟨bh, hbh⟩ : ∃ b, hb h x0 = b := ⟨_, rfl⟩
      rw [hbh] at hH
      have HBh : Hid (hb h x0 = bh) := hbh
      clear hx hxm hx' hxk hxs ek el hmm hml2 hbh
      go_wp2_with fail
      refine hH.mono ?_
      rintro e w1 ⟨rfl, hw1⟩
      rw [hw1]
      clear hH hw1 w1
      cases bh with
      | true =>
        go_wp2
        refine ⟨⟨j + 1, R', ?_, by simp, by omega, HMx.out.skip HX.out HBh.out, HRn.out, HKR.out, HKQ.out⟩, by simp [intOf]; omega⟩
        rw [cnt_step HX.out, HCn.out, HBh.out]
        simp
      | false =>
        have hprl : pr < wr.heap.size := by have := HKQ.out.size; omega
        by_cases hc1 : c = 1
        · have hwc : IntKind.i64.wrap (c - 1) = 0 := by rw [IntKind.wrap_i64]; omega
          obtain ⟨X, hX⟩ : ∃ X, wr.setCell ⟨gl, j, none⟩ (.int .i64 0) = X := ⟨_, rfl⟩
          have K1 : Kq (· = gl) wr X := by rw [← hX]; exact (Kq.refl _ _).setC ⟨gl, j, none⟩ _ (.inl rfl)
          have hMs : Mx R h (j + 1) (R'.set j ((x0, x1, x2, x3, x4), c - 1)) := HMx.out.set HX.out HBh.out
          have HMs : Hid (Mx R h (j + 1) (R'.set j ((x0, x1, x2, x3, x4), c - 1))) := hMs
          have hIs : IR X (pr + 1) (.slice (some ⟨gl, 0, none⟩) m cl) ((R'.set j ((x0, x1, x2, x3, x4), c - 1)).map Prod.snd) := by
            unfold IR
            rw [List.length_map, List.length_set, HLm.out, List.map_set, List.map_set, ← hX]
            have h9 := (HI3'.out.stored j (.int .i64 0)).1
            rw [show c - 1 = 0 by omega]
            exact h9
          have hKs : KR X (pr + 1) (.slice (some ⟨gk, 0, none⟩) m ck) ((R'.set j ((x0, x1, x2, x3, x4), c - 1)).map Prod.fst) := by
            rw [hMs.keys, ← HMx.out.keys]
            exact HK2.out.keep K1 (fun g hg e => HN4.out g hg (by rw [show g = gl from e]; rfl))
          have bpr := K1.block pr hprl hgp
          have RnX : Hid (Rn X pr top (R'.set j ((x0, x1, x2, x3, x4), c - 1))) := ⟨_, _, bpr.trans HP1.out, hKs, hIs, HN4.out, HT5.out.1, HT5.out.2⟩
          have KRX : Hid (KR X b2 (.slice ao no co) out) := HKR.out.keep K1 (fun g hg e => by
            have e' : g = gl := e
            have h8 := (World.ownsRow.lt HKR.out g hg).1
            have h9 := HT5.out.2 gl rfl
            omega)
          have KQX : Hid (Kq (fun g => pr ≤ g) w X) := HKQ.out.then K1 (fun g _ e => by have e' : g = gl := e; show pr ≤ g; omega)
          have X0 := (World.cell?_of_block (a := ⟨pr, 0, none⟩) bpr).trans e5
          have X1 := (World.cell?_of_block (a := ⟨pr, 1, none⟩) bpr).trans e6
          have X2 : X.cell? ⟨gl, j, none⟩ = some (.int .i64 0) := IR.cell hIs (by
            rw [List.map_set]
            exact (List.getElem?_set_self (by rw [List.length_map, HLm.out]; omega)).trans (congrArg some (show c - 1 = 0 by omega)))
          have bk := K1.block gk hgk2 hgg
          have Q0 := (World.cell?_of_block (a := ⟨gk, j * 5, none⟩) bk).trans q0
          have Q1 := (World.cell?_of_block (a := ⟨gk, j * 5 + 1, none⟩) bk).trans q1
          have Q2 := (World.cell?_of_block (a := ⟨gk, j * 5 + 2, none⟩) bk).trans q2
          have Q3 := (World.cell?_of_block (a := ⟨gk, j * 5 + 3, none⟩) bk).trans q3
          have Q4 := (World.cell?_of_block (a := ⟨gk, j * 5 + 4, none⟩) bk).trans q4
          have HXe : Hid (wr.setCell ⟨gl, j, none⟩ (.int .i64 0) = X) := hX
          clear K1 hMs hIs hKs bpr bk
          have hwn : IntKind.i64.wrap ((cn : Int) + 1) = (cn : Int) + 1 := by rw [IntKind.wrap_i64]; omega
          have HC1 : Hid (c = 1) := hc1
          clear hc1
          go_wp2
          clear e5 e6 r0 fz0 q0 q1 q2 q3 q4 hwc hX
          go_loopw [10, 11] (fun v10 v11 wr2 => ∃ k : Nat, v10 = .bool (decide (((x0, x1, x2, x3, x4) : Kx) ∈ out.take k)) ∧ v11 = .int .i64 k ∧ k ≤ no ∧ ∃ q, wr2 = X.drewN q)
            (fun _ v _ => no - (intOf v).toNat)
          case atStart => exact ⟨0, by simp, rfl, by omega, 0, rfl⟩
          case round =>
            obtain ⟨k, rfl, rfl, hk, q, rfl⟩ := hrel
            have hwk : IntKind.i64.wrap ((k : Int) + 1) = (k : Int) + 1 := by rw [IntKind.wrap_i64]; omega
            by_cases hkn : k = no
            · subst hkn
              have hf : decide (((x0, x1, x2, x3, x4) : Kx) ∈ out.take k) = true := by
                rw [← HNo.out, List.take_length]
                exact decide_eq_true (HAll.out _ HXm.out HC1.out HBh.out)
              rw [hf]
              clear hf
              go_wp2
              refine ⟨⟨j + 1, _, ?_, by simp, by omega, HMs.out, RnX.out.drewN q, KRX.out.keep (S := fun _ => False) ((Kq.refl _ _).drewN q) (fun _ _ h => h), KQX.out.drewN q⟩, by simp [intOf]; omega⟩
              rw [cnt_step HX.out, HCn.out, HBh.out, HC1.out]
              simp
            · have hkz : (k : Int) < (no : Int) := by omega
              obtain ⟨y, hy⟩ : ∃ y, out[k]? = some y := ⟨_, List.getElem?_eq_getElem (by rw [HNo.out]; omega)⟩
              obtain ⟨go, capo, eo, hgo1, hgo2, _⟩ := KRX.out.some (by rw [HNo.out]; omega)
              obtain ⟨rfl, hno2, rfl⟩ : ao = some ⟨go, 0, none⟩ ∧ no = out.length ∧ co = capo := by simpa using eo
              have hky := HKo.out y (List.mem_of_getElem? hy)
              obtain ⟨y0, y1, y2, y3, y4⟩ := y
              obtain ⟨o0, o1, o2, o3, o4⟩ := KRX.out.cells hy
              simp only at o0 o1 o2 o3 o4
              have heq := fun w => eql_key hky hkx w
              have hgd := eqGuard51
              obtain ⟨bq, hbq⟩ : ∃ b, decide (((y0, y1, y2, y3, y4) : Kx) = (x0, x1, x2, x3, x4)) = b := ⟨_, rfl⟩
              rw [hbq] at heq
              have htk : out.take (k + 1) = out.take k ++ [(y0, y1, y2, y3, y4)] := by rw [List.take_add_one, hy]; rfl
              obtain ⟨f, hf⟩ : ∃ b, decide (((x0, x1, x2, x3, x4) : Kx) ∈ out.take k) = b := ⟨_, rfl⟩
              have HF : Hid (decide (((x0, x1, x2, x3, x4) : Kx) ∈ out.take (k + 1)) = (f || bq)) := by
                show _ = _
                rw [htk, Bool.eq_iff_iff, Bool.or_eq_true, ← hf, ← hbq, decide_eq_true_iff, decide_eq_true_iff, decide_eq_true_iff, List.mem_append, List.mem_singleton]
                exact or_congr_right ⟨fun e => e.symm, fun e => e.symm⟩
              rw [hf]
              clear hy eo hno2 hbq htk hf hky
              cases f with
              | true =>
                go_wp2_with fail
                go_quiet (fail)
                go_wp2
                refine ⟨⟨k + 1, ?_, by simp, by omega, q + nq, rfl⟩, by simp [intOf]; omega⟩
                rw [HF.out]
                try rfl
              | false =>
                go_wp2_with fail
                go_quiet (fail)
                go_wp2
                refine ⟨⟨k + 1, ?_, by simp, by omega, q + nq, rfl⟩, by simp [intOf]; omega⟩
                first | done | (rw [HF.out]; done) | (rw [HF.out]; rfl)
        · have hwc : IntKind.i64.wrap (c - 1) = c - 1 := by rw [IntKind.wrap_i64]; omega
          have hcz : ¬ c - 1 = 0 := by omega
          obtain ⟨X, hX⟩ : ∃ X, wr.setCell ⟨gl, j, none⟩ (.int .i64 (c - 1)) = X := ⟨_, rfl⟩
          have K1 : Kq (· = gl) wr X := by rw [← hX]; exact (Kq.refl _ _).setC ⟨gl, j, none⟩ _ (.inl rfl)
          have hMs : Mx R h (j + 1) (R'.set j ((x0, x1, x2, x3, x4), c - 1)) := HMx.out.set HX.out HBh.out
          have HMs : Hid (Mx R h (j + 1) (R'.set j ((x0, x1, x2, x3, x4), c - 1))) := hMs
          have hIs : IR X (pr + 1) (.slice (some ⟨gl, 0, none⟩) m cl) ((R'.set j ((x0, x1, x2, x3, x4), c - 1)).map Prod.snd) := by
            unfold IR
            rw [List.length_map, List.length_set, HLm.out, List.map_set, List.map_set, ← hX]
            have h9 := (HI3'.out.stored j (.int .i64 (c - 1))).1
            rw [show c - 1 = (c - 1) by omega]
            exact h9
          have hKs : KR X (pr + 1) (.slice (some ⟨gk, 0, none⟩) m ck) ((R'.set j ((x0, x1, x2, x3, x4), c - 1)).map Prod.fst) := by
            rw [hMs.keys, ← HMx.out.keys]
            exact HK2.out.keep K1 (fun g hg e => HN4.out g hg (by rw [show g = gl from e]; rfl))
          have bpr := K1.block pr hprl hgp
          have RnX : Hid (Rn X pr top (R'.set j ((x0, x1, x2, x3, x4), c - 1))) := ⟨_, _, bpr.trans HP1.out, hKs, hIs, HN4.out, HT5.out.1, HT5.out.2⟩
          have KRX : Hid (KR X b2 (.slice ao no co) out) := HKR.out.keep K1 (fun g hg e => by
            have e' : g = gl := e
            have h8 := (World.ownsRow.lt HKR.out g hg).1
            have h9 := HT5.out.2 gl rfl
            omega)
          have KQX : Hid (Kq (fun g => pr ≤ g) w X) := HKQ.out.then K1 (fun g _ e => by have e' : g = gl := e; show pr ≤ g; omega)
          have X0 := (World.cell?_of_block (a := ⟨pr, 0, none⟩) bpr).trans e5
          have X1 := (World.cell?_of_block (a := ⟨pr, 1, none⟩) bpr).trans e6
          have X2 : X.cell? ⟨gl, j, none⟩ = some (.int .i64 (c - 1)) := IR.cell hIs (by
            rw [List.map_set]
            exact (List.getElem?_set_self (by rw [List.length_map, HLm.out]; omega)).trans (congrArg some (show c - 1 = (c - 1) by omega)))
          have bk := K1.block gk hgk2 hgg
          have Q0 := (World.cell?_of_block (a := ⟨gk, j * 5, none⟩) bk).trans q0
          have Q1 := (World.cell?_of_block (a := ⟨gk, j * 5 + 1, none⟩) bk).trans q1
          have Q2 := (World.cell?_of_block (a := ⟨gk, j * 5 + 2, none⟩) bk).trans q2
          have Q3 := (World.cell?_of_block (a := ⟨gk, j * 5 + 3, none⟩) bk).trans q3
          have Q4 := (World.cell?_of_block (a := ⟨gk, j * 5 + 4, none⟩) bk).trans q4
          have HXe : Hid (wr.setCell ⟨gl, j, none⟩ (.int .i64 (c - 1)) = X) := hX
          clear K1 hMs hIs hKs bpr bk
          go_wp2
          refine ⟨⟨j + 1, _, ?_, by simp, by omega, HMs.out, RnX.out, KRX.out, KQX.out⟩, by simp [intOf]; omega⟩
          rw [cnt_step HX.out, HCn.out]
          simp [hc1]

end Go.Proofs.Ytcefemblcifogai
