import Derived.Test.YtfghdhikjhbbgaeDoorBkRf1
import Derived.Test.YtfghdhikjhbbgaeDoorBkAgM
import Derived.Test.YtfghdhikjhbbgaeDoorSam
namespace Go.Proofs.YtfghdhikjhbbgaeDoor
open Go.RowKit

/-- The next piece of a gap: of the last one, or of another. -/
def nxR (k : Pk) (b : Bool) (tt c r : Int) (at' : Int) : Pc := if b then akP k tt c r at' else pPc k at' tt
theorem nxR_goes {k : Pk} (ok : k.Ok) (b : Bool) {frm tt c r : Int} (h0 : 0 ≤ frm) (h1 : tt ≤ 65536) (hc : 0 ≤ c ∧ c ≤ 4611686018427387903) (hr : 0 ≤ r ∧ r ≤ 4611686018427387903) : Goes (nxR k b tt c r) frm tt := by
  cases b
  · exact pl_goes ok h0 h1
  · exact ak_goes ok h0 h1 hc hr
/-- What is laid when so many gaps are cut. -/
def agP (k : Pk) (c r : Int) (gs : List (Int × Int)) (i : Nat) : List Pc := if i < gs.length then (gs.take i).flatMap (fun s => plG k s.1 s.2) else agL k c r gs
theorem agP_zero {k : Pk} {c r : Int} {gs : List (Int × Int)} (h : gs ≠ []) : agP k c r gs 0 = [] := by
  unfold agP; rw [if_pos (List.length_pos_iff.mpr h)]; simp
theorem agP_end (k : Pk) (c r : Int) (gs : List (Int × Int)) : agP k c r gs gs.length = agL k c r gs := by
  unfold agP; rw [if_neg (by omega)]
theorem agP_step {k : Pk} {c r : Int} {gs : List (Int × Int)} {i n : Nat} {g : Int × Int} (hn : gs.length = n + 1) (hg : gs[i]? = some g) : agP k c r gs (i + 1) = agP k c r gs i ++ itG (nxR k (decide (i = n)) g.2 c r) g.2 (g.2 - g.1).toNat g.1 := by
  have hi : i < gs.length := (List.getElem?_eq_some_iff.mp hg).1
  have e : gs.take (i + 1) = gs.take i ++ [g] := by rw [List.take_add_one, hg]; rfl
  unfold agP
  rw [if_pos hi]
  by_cases h : i = n
  · subst h
    rw [if_neg (by omega), decide_eq_true rfl]
    have h2 : gs = gs.take i ++ [g] := by rw [← e, List.take_of_length_le (by omega)]
    conv => lhs; rw [h2]
    rw [agL_snoc]
    rfl
  · rw [if_pos (by omega), decide_eq_false h, e, List.flatMap_append]
    simp only [List.flatMap_cons, List.flatMap_nil, List.append_nil]
    rfl
theorem agP_len {k : Pk} {c r red : Int} {gs : List (Int × Int)} (h : Gp gs red) (hr : red ≤ 65536) (i : Nat) : (agP k c r gs i).length ≤ 131072 := by
  unfold agP
  split
  · have h5 : C.Rt 0 (gs.take i ++ gs.drop i) := by rw [List.take_append_drop]; exact h.rt
    have := pls_len k (C.Rt.cut h5) (fun s hs => by have := h.mem s (List.mem_of_mem_take hs); omega) (Int.le_refl 0)
    omega
  · exact agL_len h hr

theorem room_cr {k : Pk} (ok : k.Ok) (at' b r : Int) (w : World) (h0 : 0 ≤ at') (h1 : at' ≤ 65535) (hb : 0 ≤ b ∧ b ≤ 4611686018427387903) (hr : 0 ≤ r ∧ r ≤ 4611686018427387903) :
    Calls Tryd.prog 55 #[.agg #[.int .i64 k.org, .int .i64 k.num], .agg #[.int .i64 k.srv, .int .i64 k.size, .int .i64 k.red, .int .i64 k.mtu, .int .i64 k.every], .agg #[.int .i64 1, .int .i64 at', .int .i64 0, .int .i64 b, .int .i64 r]] w fun e w' => e = .returned (.int .i64 (ro1 k at' b r)) ∧ Below w.heap.size w w' :=
  room2_any ok ⟨1, at', 0, b, r⟩ w h0 h1 hb hr

set_option maxRecDepth 100000 in
set_option maxHeartbeats 16000000 in
theorem again2_any (k : Pk) (gs : List (Int × Int)) (c r : Int) (a : Option Addr) (cap : Nat) (w : World) (hs : C.Ls w (.slice a gs.length cap) gs) :
    Calls Tryd.prog 11 #[.agg #[.int .i64 k.org, .int .i64 k.num], .agg #[.int .i64 k.srv, .int .i64 k.size, .int .i64 k.red, .int .i64 k.mtu, .int .i64 k.every], .slice a gs.length cap, .int .i64 c, .int .i64 r] w (CutPost (ag k gs c r) w) := by
  obtain ⟨i0, hi, hz0, hz1, hz2⟩ := info_parts Tryd.info_piece
  have HS : Hid (C.Ls w (.slice a gs.length cap) gs) := hs
  have hsm := hs.small
  clear hs
  have HST : Hid (((w.alloc (.cells #[.int .i64 k.org, .int .i64 k.num] 23)).alloc (.cells #[.int .i64 k.srv, .int .i64 k.size, .int .i64 k.red, .int .i64 k.mtu, .int .i64 k.every] 25)).heap[w.heap.size]? = some (.cells #[.int .i64 k.org, .int .i64 k.num] 23) ∧
      ((w.alloc (.cells #[.int .i64 k.org, .int .i64 k.num] 23)).alloc (.cells #[.int .i64 k.srv, .int .i64 k.size, .int .i64 k.red, .int .i64 k.mtu, .int .i64 k.every] 25)).heap[w.heap.size + 1]? = some (.cells #[.int .i64 k.srv, .int .i64 k.size, .int .i64 k.red, .int .i64 k.mtu, .int .i64 k.every] 25) ∧
      Below w.heap.size w ((w.alloc (.cells #[.int .i64 k.org, .int .i64 k.num] 23)).alloc (.cells #[.int .i64 k.srv, .int .i64 k.size, .int .i64 k.red, .int .i64 k.mtu, .int .i64 k.every] 25)) ∧ w.heap.size + 2 ≤ ((w.alloc (.cells #[.int .i64 k.org, .int .i64 k.num] 23)).alloc (.cells #[.int .i64 k.srv, .int .i64 k.size, .int .i64 k.red, .int .i64 k.mtu, .int .i64 k.every] 25)).heap.size) := by
    refine ⟨heapA (heap_alloc_new' _ _) _, ?_, ((Below.refl _ _).alloc (Nat.le_refl _) _).alloc (by simp) _, by simp⟩
    have := heap_alloc_new' (w.alloc (.cells #[.int .i64 k.org, .int .i64 k.num] 23)) (.cells #[.int .i64 k.srv, .int .i64 k.size, .int .i64 k.red, .int .i64 k.mtu, .int .i64 k.every] 25)
    rw [World.size_alloc] at this; exact this
  have hse := session2_any k ((w.alloc (.cells #[.int .i64 k.org, .int .i64 k.num] 23)).alloc (.cells #[.int .i64 k.srv, .int .i64 k.size, .int .i64 k.red, .int .i64 k.mtu, .int .i64 k.every] 25))
  have HC : Hid (ag k gs c r = if 2000 < gs.length then ([], 2) else if sesB k = false then ([], 1) else if pclB k = false then ([], 40) else if gapB gs k.red = false then ([], 40) else if asB c r = false then ([], 1) else (agL k c r gs, 0)) := rfl
  have HGB : Hid (gapB gs k.red = (decide (gs ≠ []) && (C.setB gs && decide (lastTo gs ≤ k.red)))) := rfl
  have HGP : Hid (gapB gs k.red = true → Gp gs k.red) := gp_of
  have HOK : Hid (sesB k = true → pclB k = true → k.Ok) := Pk.ok_of
  generalize ag k gs c r = R at *
  go_enter Tryd.func11, Tryd.ntmps11
  by_cases hlong : 2000 < gs.length
  · have hl' : (2000 : Int) < (gs.length : Int) := by omega
    have hR : R = ([], 2) := by rw [HC.out, if_pos hlong]
    subst hR
    clear hse
    go_wp2
    go_ret2
    exact ⟨_, rfl, ⟨rfl, .inl ⟨rfl, rfl⟩⟩, ((Below.refl _ _).alloc (Nat.le_refl _) _).alloc (by simp) _⟩
  have hl' : ¬ (2000 : Int) < (gs.length : Int) := by omega
  have HC' : Hid (R = if sesB k = false then ([], 1) else if pclB k = false then ([], 40) else if gapB gs k.red = false then ([], 40) else if asB c r = false then ([], 1) else (agL k c r gs, 0)) := by unfold Hid; rw [HC.out, if_neg hlong]
  clear HC
  go_wp2_with fail
  refine hse.mono ?_
  rintro e w1 ⟨rfl, hb⟩
  have HB1 : Hid (w1.heap[w.heap.size]? = some (.cells #[.int .i64 k.org, .int .i64 k.num] 23) ∧ w1.heap[w.heap.size + 1]? = some (.cells #[.int .i64 k.srv, .int .i64 k.size, .int .i64 k.red, .int .i64 k.mtu, .int .i64 k.every] 25) ∧ Below w.heap.size w w1) :=
    ⟨(hb.block _ (by have := HST.out.2.2.2; omega)).trans HST.out.1, (hb.block _ (by have := HST.out.2.2.2; omega)).trans HST.out.2.1, HST.out.2.2.1.trans (hb.mono HST.out.2.2.1.size)⟩
  clear HST hse hb
  cases hs1 : sesB k with
  | false =>
    have HQ : Hid (R = ([], 1)) := by unfold Hid; rw [HC'.out, if_pos hs1]
    clear HC'
    go_wp2
    go_ret2
    exact ⟨_, by rw [HQ.out]; rfl, by rw [HQ.out]; exact ⟨rfl, .inl ⟨rfl, rfl⟩⟩, HB1.out.2.2⟩
  | true =>
    obtain ⟨y0, y1, y2, y3, y4, _, _, _, _, _⟩ := box5 HB1.out.2.1
    have hpc := parcel2_any k w1
    obtain ⟨qp, hp⟩ : ∃ q, pclB k = q := ⟨_, rfl⟩
    rw [hp] at hpc
    have HP : Hid (pclB k = qp) := hp
    have HS1 : Hid (sesB k = true) := hs1
    clear hp hs1
    go_wp2_with fail
    refine hpc.mono ?_
    rintro e w2 ⟨rfl, hb⟩
    have HB2 : Hid (w2.heap[w.heap.size]? = some (.cells #[.int .i64 k.org, .int .i64 k.num] 23) ∧ w2.heap[w.heap.size + 1]? = some (.cells #[.int .i64 k.srv, .int .i64 k.size, .int .i64 k.red, .int .i64 k.mtu, .int .i64 k.every] 25) ∧ Below w.heap.size w w2) :=
      ⟨(hb.block _ (Array.getElem?_eq_some_iff.1 HB1.out.1).1).trans HB1.out.1, (hb.block _ (Array.getElem?_eq_some_iff.1 HB1.out.2.1).1).trans HB1.out.2.1, HB1.out.2.2.trans (hb.mono HB1.out.2.2.size)⟩
    clear HB1 hpc hb y0 y1 y2 y3 y4
    have hst := C.refset_ls (HS.out.below HB2.out.2.2)
    obtain ⟨qs, hq⟩ : ∃ q, C.setB gs = q := ⟨_, rfl⟩
    rw [hq] at hst
    have HQS : Hid (C.setB gs = qs) := hq
    clear hq
    go_wp2_with fail
    refine hst.mono ?_
    rintro e w3 ⟨rfl, hb⟩
    have HB3 : Hid (w3.heap[w.heap.size]? = some (.cells #[.int .i64 k.org, .int .i64 k.num] 23) ∧ w3.heap[w.heap.size + 1]? = some (.cells #[.int .i64 k.srv, .int .i64 k.size, .int .i64 k.red, .int .i64 k.mtu, .int .i64 k.every] 25) ∧ Below w.heap.size w w3) :=
      ⟨(hb.block _ (Array.getElem?_eq_some_iff.1 HB2.out.1).1).trans HB2.out.1, (hb.block _ (Array.getElem?_eq_some_iff.1 HB2.out.2.1).1).trans HB2.out.2.1, HB2.out.2.2.trans (hb.mono HB2.out.2.2.size)⟩
    clear HB2 hst hb
    cases qp with
    | false =>
      have HQ : Hid (R = ([], 40)) := by unfold Hid; rw [HC'.out, HS1.out, if_neg (by simp), if_pos HP.out]
      clear HC'
      go_wp2_with fail
      go_quiet (fail)
      go_wp2
      go_ret2
      exact ⟨_, by rw [HQ.out]; rfl, by rw [HQ.out]; exact ⟨rfl, .inl ⟨rfl, rfl⟩⟩, below_drewN HB3.out.2.2 _⟩
    | true =>
      have HC2 : Hid (R = if gapB gs k.red = false then ([], 40) else if asB c r = false then ([], 1) else (agL k c r gs, 0)) := by unfold Hid; rw [HC'.out, HS1.out, HP.out, if_neg (by simp), if_neg (by simp)]
      have OK : Hid k.Ok := HOK.out HS1.out HP.out
      clear HC' HOK HS1 HP
      cases qs with
      | false =>
        have HQ : Hid (R = ([], 40)) := by unfold Hid; rw [HC2.out, if_pos (by rw [HGB.out, HQS.out]; simp)]
        clear HC2
        go_wp2_with fail
        go_quiet (fail)
        go_wp2
        go_ret2
        exact ⟨_, by rw [HQ.out]; rfl, by rw [HQ.out]; exact ⟨rfl, .inl ⟨rfl, rfl⟩⟩, below_drewN HB3.out.2.2 _⟩
      | true =>
        by_cases hne : gs = []
        · subst hne
          have HQ : Hid (R = ([], 40)) := by unfold Hid; rw [HC2.out, if_pos (by rw [HGB.out]; simp)]
          clear HC2
          go_wp2_with fail
          go_quiet (fail)
          go_wp2
          go_ret2
          exact ⟨_, by rw [HQ.out]; rfl, by rw [HQ.out]; exact ⟨rfl, .inl ⟨rfl, rfl⟩⟩, below_drewN HB3.out.2.2 _⟩
        have hpos : 0 < gs.length := List.length_pos_iff.mpr hne
        obtain ⟨a', cap', hv, hspa, hcap, hcm⟩ := HS.out.shape
        simp only [Value.slice.injEq, true_and] at hv
        obtain ⟨rfl, rfl⟩ := hv
        obtain ⟨n, hn⟩ : ∃ n, gs.length = n + 1 := ⟨gs.length - 1, by omega⟩
        obtain ⟨gl, hgl⟩ : ∃ gl, gs[n]? = some gl := ⟨gs[n], List.getElem?_eq_getElem (by omega)⟩
        obtain ⟨G, off, rfl, _, _⟩ := hspa.at hgl
        have HSP : Hid (∀ W, Below w.heap.size w W → ∀ i p, gs[i]? = some p → W.cell? ⟨G, off + i * 2, none⟩ = some (.int .i64 p.1) ∧ W.cell? ⟨G, off + i * 2 + 1, none⟩ = some (.int .i64 p.2)) := fun W hW i p hp => by
          obtain ⟨g', off', e, c1, c2⟩ := (hspa.below hW).at hp
          simp only [Option.some.injEq, Addr.mk.injEq, and_true] at e
          obtain ⟨rfl, rfl⟩ := e
          exact ⟨c1, c2⟩
        have hGlt : G < w.heap.size := World.block_lt_of_cell? w ⟨G, off + n * 2, none⟩ (HSP.out w (Below.refl _ _) n gl hgl).1
        have HLA : Hid (lastTo gs = gl.2) := by unfold Hid lastTo; rw [List.getLast?_eq_getElem?, hn, Nat.add_sub_cancel, hgl]; rfl
        have HNE : Hid (gs ≠ []) := hne
        have HGL : Hid (gs[n]? = some gl) := hgl
        have HN : Hid (gs.length = n + 1) := hn
        rw [hn] at hcap hsm hl' ⊢
        have hn2 : n ≤ 2000 := by omega
        have hwm : IntKind.i64.wrap (((n + 1 : Nat) : Int) - 1) = n := by rw [IntKind.wrap_i64]; omega
        have hnz : (((n + 1 : Nat) : Int) == 0) = false := by simp; omega
        have hnlt : (n : Int) < ((n + 1 : Nat) : Int) := by omega
        clear hspa hgl hn hpos HS hne
        obtain ⟨c1, c2⟩ := HSP.out w3 HB3.out.2.2 n gl HGL.out
        obtain ⟨_, _, y2, _, _, _, _, _, _, _⟩ := box5 HB3.out.2.1
        obtain ⟨N1, hN1⟩ : ∃ N1, n + 1 = N1 := ⟨_, rfl⟩
        rw [hN1] at hcap hsm hl' hwm hnz hnlt ⊢
        have hNa : n < N1 := by omega
        have hNb : N1 ≤ n + 1 := by omega
        clear hN1
        by_cases hred : k.red < gl.2
        · have HQ : Hid (R = ([], 40)) := by unfold Hid; rw [HC2.out, if_pos (by rw [HGB.out, HLA.out, decide_eq_false (by omega : ¬ gl.2 ≤ k.red)]; simp)]
          have hd : decide (k.red < gl.2) = true := decide_eq_true hred
          clear HC2 c1
          go_wp2_with fail
          go_quiet (fail)
          go_wp2
          go_ret2
          exact ⟨_, by rw [HQ.out]; rfl, by rw [HQ.out]; exact ⟨rfl, .inl ⟨rfl, rfl⟩⟩, below_drewN HB3.out.2.2 _⟩
        have HGT : Hid (gapB gs k.red = true) := by unfold Hid; rw [HGB.out, HLA.out, HQS.out, decide_eq_true HNE.out, decide_eq_true (by omega : gl.2 ≤ k.red)]; rfl
        have GP : Hid (Gp gs k.red) := HGP.out HGT.out
        have HC3 : Hid (R = if asB c r = false then ([], 1) else (agL k c r gs, 0)) := by unfold Hid; rw [HC2.out, HGT.out, if_neg (by simp)]
        have hd : decide (k.red < gl.2) = false := decide_eq_false hred
        clear HC2 HGT HGB HGP HLA HQS
        go_wp2_with fail
        go_quiet (fail)
        clear c1 c2 y2 hd
        have HB4 : Hid ((w3.drewN nq).heap[w.heap.size]? = some (.cells #[.int .i64 k.org, .int .i64 k.num] 23) ∧ (w3.drewN nq).heap[w.heap.size + 1]? = some (.cells #[.int .i64 k.srv, .int .i64 k.size, .int .i64 k.red, .int .i64 k.mtu, .int .i64 k.every] 25) ∧ Below w.heap.size w (w3.drewN nq)) := ⟨HB3.out.1, HB3.out.2.1, below_drewN HB3.out.2.2 nq⟩
        clear HB3
        generalize w3.drewN nq = w3 at *
        by_cases has : asB c r = true
        rotate_left
        · have HQ : Hid (R = ([], 1)) := by unfold Hid; rw [HC3.out, if_pos (by simpa using has)]
          have HA : Hid (¬ ((1 ≤ c ∧ c ≤ 4611686018427387903) ∧ 0 ≤ r ∧ r ≤ 4611686018427387903)) := fun h => has (by simp only [asB, btw, Bool.and_eq_true, decide_eq_true_eq]; exact h)
          clear HC3 has
          by_cases e1 : c < 1
          · go_wp2
            go_ret2
            exact ⟨_, by rw [HQ.out]; rfl, by rw [HQ.out]; exact ⟨rfl, .inl ⟨rfl, rfl⟩⟩, HB4.out.2.2⟩
          by_cases e2 : 4611686018427387903 < c
          · go_wp2
            go_ret2
            exact ⟨_, by rw [HQ.out]; rfl, by rw [HQ.out]; exact ⟨rfl, .inl ⟨rfl, rfl⟩⟩, HB4.out.2.2⟩
          by_cases e3 : r < 0
          · go_wp2
            go_ret2
            exact ⟨_, by rw [HQ.out]; rfl, by rw [HQ.out]; exact ⟨rfl, .inl ⟨rfl, rfl⟩⟩, HB4.out.2.2⟩
          have e4 : 4611686018427387903 < r := by have := HA.out; omega
          go_wp2
          go_ret2
          exact ⟨_, by rw [HQ.out]; rfl, by rw [HQ.out]; exact ⟨rfl, .inl ⟨rfl, rfl⟩⟩, HB4.out.2.2⟩
        have HQ : Hid (R = (agL k c r gs, 0)) := by unfold Hid; rw [HC3.out, has, if_neg (by simp)]
        have hcr : (1 ≤ c ∧ c ≤ 4611686018427387903) ∧ 0 ≤ r ∧ r ≤ 4611686018427387903 := by
          simp only [asB, btw, Bool.and_eq_true, decide_eq_true_eq] at has
          exact has
        obtain ⟨⟨hc1, hc2⟩, hr1, hr2⟩ := hcr
        clear HC3 has
        have hrd : k.red ≤ 65536 := by have := OK.out.size; have := OK.out.red; omega
        have HSZ : Hid (w.heap.size + 2 ≤ w3.heap.size) := (Array.getElem?_eq_some_iff.1 HB4.out.2.1).1
        have HS0 : Hid (POwn w3 w3.heap.size (.slice none 0 0) (agP k c r gs 0)) := by unfold Hid; rw [agP_zero HNE.out]; exact ⟨rfl, .inl ⟨rfl, rfl⟩⟩
        go_wp2_with fail
        go_loopw [16, 17] (fun p q wr => ∃ (v : Value) (i : Nat), v = p ∧ q = .int .i64 i ∧ i ≤ N1 ∧ POwn wr w3.heap.size v (agP k c r gs i) ∧ Below w3.heap.size w3 wr) (fun _ q _ => N1 - (intOf q).toNat)
        case atStart => exact ⟨_, 0, rfl, rfl, by omega, HS0.out, Below.refl _ _⟩
        case round =>
          obtain ⟨v, i, rfl, rfl, hiN, ho, hbe⟩ := hrel
          clear HS0
          have HO0 : Hid (POwn wr w3.heap.size v (agP k c r gs i)) := ho
          have HBE : Hid (Below w3.heap.size w3 wr) := hbe
          clear ho hbe
          by_cases hiL : i < N1
          rotate_left
          · have hie : i = N1 := by omega
            have HF : Hid (POwn wr w.heap.size v (agL k c r gs) ∧ Below w.heap.size w wr) := by
              refine ⟨?_, HB4.out.2.2.trans (HBE.out.mono HB4.out.2.2.size)⟩
              have h9 := HO0.out
              rw [show i = gs.length by have := HN.out; omega, agP_end] at h9
              exact h9.weak HB4.out.2.2.size
            have hiL' : ¬ (i : Int) < (N1 : Int) := by omega
            clear HO0 HBE
            go_wp2
            go_ret2
            exact ⟨v, by rw [HQ.out]; rfl, by rw [HQ.out]; exact HF.out.1, HF.out.2⟩
          have hiL' : (i : Int) < (N1 : Int) := by omega
          obtain ⟨g, hgi⟩ : ∃ g, gs[i]? = some g := ⟨gs[i]'(by have := HN.out; omega), List.getElem?_eq_getElem _⟩
          have HGI : Hid (gs[i]? = some g) := hgi
          have hgm := GP.out.mem g (List.mem_of_getElem? hgi)
          obtain ⟨hg1, hg2, hg3⟩ := hgm
          obtain ⟨c1, c2⟩ := HSP.out wr (HB4.out.2.2.trans (HBE.out.mono HB4.out.2.2.size)) i g hgi
          have HI0 : Hid (II (nxR k (decide (i = n)) g.2 c r) g.1 g.2 (agP k c r gs i) w3.heap.size w3 v g.1 [] (g.2 - g.1).toNat wr) := II.start HBE.out HO0.out
          have HGO : Hid (Goes (nxR k (decide (i = n)) g.2 c r) g.1 g.2) := nxR_goes OK.out _ hg1 (by omega) ⟨by omega, hc2⟩ ⟨hr1, hr2⟩
          have HAL : Hid ((agP k c r gs i).length ≤ 131072) := agP_len GP.out hrd i
          have hui : IntKind.i64.wrap ((i : Int) + 1) = (i : Int) + 1 := by rw [IntKind.wrap_i64]; omega
          have HNX : Hid (∀ wr' v', POwn wr' w3.heap.size v' (agP k c r gs i ++ itG (nxR k (decide (i = n)) g.2 c r) g.2 (g.2 - g.1).toNat g.1) → POwn wr' w3.heap.size v' (agP k c r gs (i + 1))) := fun wr' v' h => by rw [agP_step (n := n) HN.out HGI.out]; exact h
          generalize agP k c r gs i = acc at *
          clear hgi HO0 HBE
          obtain ⟨f0, t0⟩ := g
          simp only at hg1 hg2 hg3 c1 c2 HI0 HGO HNX
          go_wp2_with fail
          go_loopw [16, 18] (fun p q wr' => ∃ (v' : Value) (at' : Int) (l : List Pc) (f : Nat), v' = p ∧ q = .int .i64 at' ∧ II (nxR k (decide (i = n)) t0 c r) f0 t0 acc w3.heap.size w3 v' at' l f wr') (fun _ q _ => (t0 - intOf q).toNat)
          case atStart => exact ⟨_, f0, [], _, rfl, rfl, HI0.out⟩
          case round =>
            obtain ⟨v, at', l, f, rfl, rfl, hg⟩ := hrel
            clear HI0 c1 c2
            have HG : Hid (II (nxR k (decide (i = n)) t0 c r) f0 t0 acc w3.heap.size w3 v at' l f wr) := hg
            clear hg
            have HBW : Hid (Below w.heap.size w wr) := HB4.out.2.2.trans (HG.out.bel.mono HB4.out.2.2.size)
            have HSE : Hid (wr.heap[w.heap.size]? = some (.cells #[.int .i64 k.org, .int .i64 k.num] 23)) := (HG.out.bel.block _ (by have := HSZ.out; omega)).trans HB4.out.1
            have HPC0 : Hid (wr.heap[w.heap.size + 1]? = some (.cells #[.int .i64 k.srv, .int .i64 k.size, .int .i64 k.red, .int .i64 k.mtu, .int .i64 k.every] 25)) := (HG.out.bel.block _ (by have := HSZ.out; omega)).trans HB4.out.2.1
            have HS3 : Hid (w.heap.size + 2 ≤ wr.heap.size) := (Array.getElem?_eq_some_iff.1 HPC0.out).1
            have HWB : Hid (w3.heap.size ≤ wr.heap.size) := HG.out.bel.size
            obtain ⟨c1, c2⟩ := HSP.out wr HBW.out i (f0, t0) HGI.out
            simp only at c1 c2
            by_cases hlt : at' < t0
            rotate_left
            · have HNx : Hid (POwn wr w3.heap.size v (agP k c r gs (i + 1)) ∧ Below w3.heap.size w3 wr) := ⟨HNX.out _ _ (HG.out.done hlt), HG.out.bel⟩
              clear HG HBW HSE HPC0 HGO
              go_wp2
              go_roundw
              case rel => exact ⟨_, i + 1, rfl, by go_num, by omega, HNx.out.1, HNx.out.2⟩
              case measure => simp [intOf]; omega
            have hb1 : 0 ≤ at' ∧ at' ≤ 65535 := by have := HG.out.lo; omega
            obtain ⟨hb1, hb2⟩ := hb1
            have hro := ro1_low OK.out (at' := at') (c := c) (r := r) hb1 (by omega) ⟨by omega, hc2⟩ ⟨hr1, hr2⟩
            have HL : Hid ((acc ++ l).length ≤ 262144) := by have := HG.out.len; have := HG.out.hi; have := HAL.out; unfold Hid; rw [List.length_append]; omega
            have hrm := room_cr OK.out at' c r (wr.alloc (.cells #[.int .i64 1, .int .i64 at', .int .i64 0, .int .i64 c, .int .i64 r] 38)) hb1 hb2 ⟨by omega, hc2⟩ ⟨hr1, hr2⟩
            have s0 : (wr.alloc (.cells #[.int .i64 1, .int .i64 at', .int .i64 0, .int .i64 c, .int .i64 r] 38)).cell? ⟨w.heap.size, 0, none⟩ = some (.int .i64 k.org) := cell_of_row _ _ 0 _ _ _ (heapA HSE.out _)
            have s1 : (wr.alloc (.cells #[.int .i64 1, .int .i64 at', .int .i64 0, .int .i64 c, .int .i64 r] 38)).cell? ⟨w.heap.size, 1, none⟩ = some (.int .i64 k.num) := cell_of_row _ _ 1 _ _ _ (heapA HSE.out _)
            obtain ⟨p0, p1, p2, p3, p4, _, _, _, _, _⟩ := box5 (heapA HPC0.out (.cells #[.int .i64 1, .int .i64 at', .int .i64 0, .int .i64 c, .int .i64 r] 38))
            have HNXE : Hid (nxR k (decide (i = n)) t0 c r at' = if i = n ∧ t0 - at' ≤ ro1 k at' c r then ⟨ckT k t0, at', t0, c, r⟩ else if i = n then pPc k at' (t0 - 1) else pPc k at' t0) := by
              unfold Hid nxR akP
              by_cases hin : i = n
              · rw [decide_eq_true hin, if_pos (rfl : true = true)]
                by_cases hq : t0 - at' ≤ ro1 k at' c r
                · rw [if_neg (show ¬ (cPc k at' t0 c r).to < t0 by simp only [cPc]; omega), if_pos (show i = n ∧ t0 - at' ≤ ro1 k at' c r from ⟨hin, hq⟩)]
                  simp only [cPc]
                  rw [show min (at' + ro1 k at' c r) t0 = t0 by omega]
                · rw [if_pos (show (cPc k at' t0 c r).to < t0 by simp only [cPc]; omega), if_neg (show ¬ (i = n ∧ t0 - at' ≤ ro1 k at' c r) from fun h => hq h.2), if_pos hin]
              · rw [decide_eq_false hin, if_neg (show ¬ false = true by simp), if_neg (show ¬ (i = n ∧ t0 - at' ≤ ro1 k at' c r) from fun h => hin h.1), if_neg hin]
            generalize ro1 k at' c r = ro at *
            have u1 : IntKind.i64.wrap (t0 - at') = t0 - at' := by rw [IntKind.wrap_i64]; omega
            go_wp2_with fail
            refine hrm.mono ?_
            rintro e w4 ⟨rfl, hb4⟩
            obtain ⟨z0, z1, z2, z3, z4, f0', f1', f2', f3', f4'⟩ := box5 ((hb4.block wr.heap.size (by simp)).trans (heap_alloc_new' _ _))
            have hpc4 := (hb4.block (w.heap.size + 1) (by have := HS3.out; simp; omega)).trans (heapA HPC0.out _)
            have hse4 := (hb4.block w.heap.size (by have := HS3.out; simp; omega)).trans (heapA HSE.out _)
            obtain ⟨q0, q1, q2, q3, q4, _, _, _, _, _⟩ := box5 hpc4
            have r0 : w4.cell? ⟨w.heap.size, 0, none⟩ = some (.int .i64 k.org) := cell_of_row _ _ 0 _ _ _ hse4
            have r1 : w4.cell? ⟨w.heap.size, 1, none⟩ = some (.int .i64 k.num) := cell_of_row _ _ 1 _ _ _ hse4
            clear hrm s0 s1 p0 p1 p2 p3 p4 c1 c2
            have hne : w.heap.size + 1 ≠ wr.heap.size := by have := HS3.out; omega
            have hne' : wr.heap.size ≠ w.heap.size + 1 := by have := HS3.out; omega
            have hn0 : w.heap.size ≠ wr.heap.size := by have := HS3.out; omega
            have hn0' : wr.heap.size ≠ w.heap.size := by have := HS3.out; omega
            have hnG : G ≠ wr.heap.size := by have := HS3.out; omega
            have hnG' : wr.heap.size ≠ G := by have := HS3.out; omega
            obtain ⟨av, cap', hv⟩ := own_shp HG.out.own
            have HO : Hid (wr.ownsRow w3.heap.size 38 5 v (acc ++ l).length ((acc ++ l).flatMap pcL)) := HG.out.own
            subst hv
            obtain ⟨X, hX⟩ : ∃ X, (acc ++ l).flatMap pcL = X := ⟨_, rfl⟩
            obtain ⟨m, hm⟩ : ∃ m, (acc ++ l).length = m := ⟨_, rfl⟩
            rw [hX, hm] at HO
            rw [hm] at HG HL
            have HX : Hid ((acc ++ l).flatMap pcL = X ∧ (acc ++ l).length = m) := ⟨hX, hm⟩
            rw [hm]
            clear hX hm hpc4 hse4
            have HZ3 : Hid (w4.heap[wr.heap.size]? = some (.cells #[.int .i64 1, .int .i64 at', .int .i64 0, .int .i64 c, .int .i64 r] 38)) := (hb4.block wr.heap.size (by simp)).trans (heap_alloc_new' _ _)
            have HB3 : Hid (Below wr.heap.size wr w4) := ((Below.refl _ _).alloc (Nat.le_refl _) _).trans (hb4.mono (by simp))
            have HLT : Hid (wr.heap.size < w4.heap.size) := by have := hb4.size; simp at this; exact this
            obtain ⟨c1, c2⟩ := HSP.out w4 (HBW.out.trans (HB3.out.mono HBW.out.size)) i (f0, t0) HGI.out
            simp only at c1 c2
            clear hb4
            by_cases hC : i = n ∧ t0 - at' ≤ ro
            · obtain ⟨hin, hle⟩ := hC
              have HNP : Hid (nxR k (decide (i = n)) t0 c r at' = ⟨ckT k t0, at', t0, c, r⟩) := by unfold Hid; rw [HNXE.out, if_pos ⟨hin, hle⟩]
              have hen := fun V => ended_any k t0 V hg3
              generalize ckT k t0 = Y at *
              have e2 : ((i : Int) == (n : Int)) = true := by simp [hin]
              obtain ⟨d1, d2⟩ := HSP.out w4 (HBW.out.trans (HB3.out.mono HBW.out.size)) n (f0, t0) (by rw [← hin]; exact HGI.out)
              simp only at d1 d2
              clear HNXE hin
              go_wp2_with fail
              refine (hen _).mono ?_
              rintro e w5 ⟨rfl, hb5⟩
              have hb5' := hb5.size
              simp only [World.setCell, Array.size_modify] at hb5'
              have HSW : Hid ((w5.setCell ⟨wr.heap.size, 0, none⟩ (.int .i64 Y)).heap.size = w5.heap.size ∧ wr.heap.size < w5.heap.size) := ⟨by simp [World.setCell], by have := HLT.out; omega⟩
              have HZ : Hid (w5.heap[wr.heap.size]? = some (.cells #[.int .i64 1, .int .i64 at', .int .i64 t0, .int .i64 c, .int .i64 r] 38)) := (hb5.block wr.heap.size (by have := HLT.out; simp [World.setCell]; omega)).trans (set5 HZ3.out)
              have HBF : Hid (Below wr.heap.size wr (w5.setCell ⟨wr.heap.size, 0, none⟩ (.int .i64 Y))) := ((HB3.out.setCell (Nat.le_refl _) _).trans (hb5.mono (by have := HLT.out; simp [World.setCell]; omega))).setCell (Nat.le_refl _) _
              have HBK : Hid ((w5.setCell ⟨wr.heap.size, 0, none⟩ (.int .i64 Y)).heap[wr.heap.size]? = some (.cells #[.int .i64 Y, .int .i64 at', .int .i64 t0, .int .i64 c, .int .i64 r] 38)) := set50 HZ.out
              clear hb5 hb5' z0 z1 z2 z3 z4 f0' f1' f2' f3' f4' q0 q1 q2 q3 q4 r0 r1 c1 c2 d1 d2 hen
              obtain ⟨z0, z1, z2, z3, z4, f0', f1', f2', f3', f4'⟩ := box5 HZ.out
              go_wp2_with (at_builtin; refine wpList_append_own_at _ rfl _ _ 30 rfl w3.heap.size 38 i0 (.agg #[.int .i64 0, .int .i64 0, .int .i64 0, .int .i64 0, .int .i64 0]) 5 40 Tryd.underlying30 hi hz0 hz1 hz2 rfl (by decide) _ _ _ rfl (World.ownsRow.alloc (own_below HO.out HBF.out) _) ⟨w5.heap.size, 0, none⟩ 1 1 [.int .i64 Y, .int .i64 at', .int .i64 t0, .int .i64 c, .int .i64 r] rfl rfl ?c1 ?c2 ?c3 ?c4 ?c5 ?_)
              case c1 => exact cell_five _ _ _ _ _ _ _ _ (by simp)
              case c2 => intro x hx; simp only [List.mem_cons, List.not_mem_nil, or_false] at hx; rcases hx with rfl | rfl | rfl | rfl | rfl <;> rfl
              case c3 => have := HL.out; unfold maxLen; omega
              case c4 => have := HL.out; omega
              case c5 => have h1 := HWB.out; have h2 := HSW.out; simp; omega
              intro v' w6 hown5 hgrow5 _ _
              have hst := HG.out.step HGO.out hlt (Nat.le_refl _) ((HBF.out.alloc HBF.out.size _).mono HWB.out) (by rw [HX.out.1, HX.out.2, HNP.out]; exact hown5) hgrow5
              rw [HNP.out] at hst
              have hcl : w6.cell? ⟨wr.heap.size, 2, none⟩ = some (.int .i64 t0) := cell_of_row _ _ 2 _ _ _ ((hgrow5.block wr.heap.size (by have := HSW.out; simp only [World.size_alloc]; omega) (fun e => by have := row_ge HO.out _ e.symm; omega)).trans (heapA HBK.out _))
              have HNn : Hid (∃ x f', II (nxR k (decide (i = n)) t0 c r) f0 t0 acc w3.heap.size w3 v' t0 (l ++ [x]) f' w6) := by obtain ⟨f', h⟩ := hst; exact ⟨_, f', h⟩
              clear hst hown5 hgrow5 HG HO HBF HX HL HBK HSW HNP HZ HSP HNX HGO
              go_wp2
              go_roundw
              case rel => obtain ⟨x, f', h⟩ := HNn.out; exact ⟨_, _, _, f', rfl, by go_num, h⟩
              case measure => simp [intOf]; omega
            by_cases hin : i = n
            · have hC2 : ro < t0 - at' := by have := hC; omega
              have e2 : ((i : Int) == (n : Int)) = true := by simp [hin]
              have e3 : decide (t0 - at' ≤ ro) = false := decide_eq_false (by omega)
              have hat : at' < t0 - 1 := by omega
              have HNE2 : Hid (nxR k (decide (i = n)) t0 c r at' = pPc k at' (t0 - 1)) := by unfold Hid; rw [HNXE.out, if_neg (fun h => by omega), if_pos hin]
              have hto2 := pPc_to OK.out (at' := at') (e := t0 - 1) hb1 hat (by omega)
              have hr0 := ro0_low OK.out (at' := at') hb1 (by omega)
              have hpn := room_p OK.out 0 at' (.inl rfl) (((((w4.setCell ⟨wr.heap.size, 0, none⟩ (.int .i64 0)).setCell ⟨wr.heap.size, 1, none⟩ (.int .i64 at')).setCell ⟨wr.heap.size, 2, none⟩ (.int .i64 0)).setCell ⟨wr.heap.size, 3, none⟩ (.int .i64 0)).setCell ⟨wr.heap.size, 4, none⟩ (.int .i64 0)) hb1 hb2
              obtain ⟨T2, hT2⟩ : ∃ T2, min (at' + ro0 k at') (t0 - 1) = T2 := ⟨_, rfl⟩
              have HPP : Hid (pPc k at' (t0 - 1) = ⟨0, at', T2, 0, 0⟩) := by unfold Hid pPc; rw [hT2]
              have HNP : Hid (nxR k (decide (i = n)) t0 c r at' = ⟨0, at', T2, 0, 0⟩) := by unfold Hid; rw [HNE2.out, HPP.out]
              rw [HPP.out] at hto2
              simp only at hto2
              generalize ro0 k at' = r0v at *
              have u5 : IntKind.i64.wrap (t0 - at' - 1) = t0 - at' - 1 := by rw [IntKind.wrap_i64]; omega
              have u6 : IntKind.i64.wrap (at' + min r0v (t0 - at' - 1)) = T2 := by rw [IntKind.wrap_i64]; omega
              clear HNXE HNE2 HPP hT2 hin hC
              go_wp2_with fail
              refine hpn.mono ?_
              rintro e w5 ⟨rfl, hb5⟩
              have hb5' := hb5.size
              simp only [World.setCell, Array.size_modify] at hb5'
              have HSW : Hid ((w5.setCell ⟨wr.heap.size, 2, none⟩ (.int .i64 T2)).heap.size = w5.heap.size ∧ wr.heap.size < w5.heap.size) := ⟨by simp [World.setCell], by have := HLT.out; omega⟩
              have HZ : Hid (w5.heap[wr.heap.size]? = some (.cells #[.int .i64 0, .int .i64 at', .int .i64 0, .int .i64 0, .int .i64 0] 38)) := (hb5.block wr.heap.size (by have := HLT.out; simp [World.setCell]; omega)).trans (setAll HZ3.out)
              have HB4' : Hid (Below wr.heap.size wr w5) := (five_below HB3.out (Nat.le_refl _) _ _ _ _ _).trans (hb5.mono (by have := HLT.out; simp [World.setCell]; omega))
              have HBF : Hid (Below wr.heap.size wr (w5.setCell ⟨wr.heap.size, 2, none⟩ (.int .i64 T2))) := HB4'.out.setCell (Nat.le_refl _) _
              have HBK : Hid ((w5.setCell ⟨wr.heap.size, 2, none⟩ (.int .i64 T2)).heap[wr.heap.size]? = some (.cells #[.int .i64 0, .int .i64 at', .int .i64 T2, .int .i64 0, .int .i64 0] 38)) := set5 HZ.out
              clear hb5 hb5' hpn z0 z1 z2 z3 z4 f0' f1' f2' f3' f4' q0 q1 q2 q3 q4 r0 r1 c1 c2 HB4'
              obtain ⟨z0, z1, z2, z3, z4, f0', f1', f2', f3', f4'⟩ := box5 HZ.out
              go_wp2_with (at_builtin; refine wpList_append_own_at _ rfl _ _ 30 rfl w3.heap.size 38 i0 (.agg #[.int .i64 0, .int .i64 0, .int .i64 0, .int .i64 0, .int .i64 0]) 5 40 Tryd.underlying30 hi hz0 hz1 hz2 rfl (by decide) _ _ _ rfl (World.ownsRow.alloc (own_below HO.out HBF.out) _) ⟨w5.heap.size, 0, none⟩ 1 1 [.int .i64 0, .int .i64 at', .int .i64 T2, .int .i64 0, .int .i64 0] rfl rfl ?c1 ?c2 ?c3 ?c4 ?c5 ?_)
              case c1 => exact cell_five _ _ _ _ _ _ _ _ (by simp)
              case c2 => intro x hx; simp only [List.mem_cons, List.not_mem_nil, or_false] at hx; rcases hx with rfl | rfl | rfl | rfl | rfl <;> rfl
              case c3 => have := HL.out; unfold maxLen; omega
              case c4 => have := HL.out; omega
              case c5 => have h1 := HWB.out; have h2 := HSW.out; simp; omega
              intro v' w6 hown5 hgrow5 _ _
              have hst := HG.out.step HGO.out hlt (Nat.le_refl _) ((HBF.out.alloc HBF.out.size _).mono HWB.out) (by rw [HX.out.1, HX.out.2, HNP.out]; exact hown5) hgrow5
              rw [HNP.out] at hst
              have hcl : w6.cell? ⟨wr.heap.size, 2, none⟩ = some (.int .i64 T2) := cell_of_row _ _ 2 _ _ _ ((hgrow5.block wr.heap.size (by have := HSW.out; simp only [World.size_alloc]; omega) (fun e => by have := row_ge HO.out _ e.symm; omega)).trans (heapA HBK.out _))
              have HNn : Hid (∃ x f', II (nxR k (decide (i = n)) t0 c r) f0 t0 acc w3.heap.size w3 v' T2 (l ++ [x]) f' w6) := by obtain ⟨f', h⟩ := hst; exact ⟨_, f', h⟩
              clear hst hown5 hgrow5 HG HO HBF HX HL HBK HSW HNP HZ HSP HNX HGO
              go_wp2
              go_roundw
              case rel => obtain ⟨x, f', h⟩ := HNn.out; exact ⟨_, _, _, f', rfl, by go_num, h⟩
              case measure => simp [intOf]; omega
            · have e2 : ((i : Int) == (n : Int)) = false := by simp; omega
              have hne2 : i < n := by omega
              have hat : at' < t0 := hlt
              have HNE2 : Hid (nxR k (decide (i = n)) t0 c r at' = pPc k at' (t0)) := by unfold Hid; rw [HNXE.out, if_neg (fun h => hin h.1), if_neg hin]
              have hto2 := pPc_to OK.out (at' := at') (e := t0) hb1 hat (by omega)
              have hr0 := ro0_low OK.out (at' := at') hb1 (by omega)
              have hpn := room_p OK.out 0 at' (.inl rfl) (((((w4.setCell ⟨wr.heap.size, 0, none⟩ (.int .i64 0)).setCell ⟨wr.heap.size, 1, none⟩ (.int .i64 at')).setCell ⟨wr.heap.size, 2, none⟩ (.int .i64 0)).setCell ⟨wr.heap.size, 3, none⟩ (.int .i64 0)).setCell ⟨wr.heap.size, 4, none⟩ (.int .i64 0)) hb1 hb2
              obtain ⟨T2, hT2⟩ : ∃ T2, min (at' + ro0 k at') (t0) = T2 := ⟨_, rfl⟩
              have HPP : Hid (pPc k at' (t0) = ⟨0, at', T2, 0, 0⟩) := by unfold Hid pPc; rw [hT2]
              have HNP : Hid (nxR k (decide (i = n)) t0 c r at' = ⟨0, at', T2, 0, 0⟩) := by unfold Hid; rw [HNE2.out, HPP.out]
              rw [HPP.out] at hto2
              simp only at hto2
              generalize ro0 k at' = r0v at *
              have u6 : IntKind.i64.wrap (at' + min r0v (t0 - at')) = T2 := by rw [IntKind.wrap_i64]; omega
              clear HNXE HNE2 HPP hT2 hin hC
              go_wp2_with fail
              refine hpn.mono ?_
              rintro e w5 ⟨rfl, hb5⟩
              have hb5' := hb5.size
              simp only [World.setCell, Array.size_modify] at hb5'
              have HSW : Hid ((w5.setCell ⟨wr.heap.size, 2, none⟩ (.int .i64 T2)).heap.size = w5.heap.size ∧ wr.heap.size < w5.heap.size) := ⟨by simp [World.setCell], by have := HLT.out; omega⟩
              have HZ : Hid (w5.heap[wr.heap.size]? = some (.cells #[.int .i64 0, .int .i64 at', .int .i64 0, .int .i64 0, .int .i64 0] 38)) := (hb5.block wr.heap.size (by have := HLT.out; simp [World.setCell]; omega)).trans (setAll HZ3.out)
              have HB4' : Hid (Below wr.heap.size wr w5) := (five_below HB3.out (Nat.le_refl _) _ _ _ _ _).trans (hb5.mono (by have := HLT.out; simp [World.setCell]; omega))
              have HBF : Hid (Below wr.heap.size wr (w5.setCell ⟨wr.heap.size, 2, none⟩ (.int .i64 T2))) := HB4'.out.setCell (Nat.le_refl _) _
              have HBK : Hid ((w5.setCell ⟨wr.heap.size, 2, none⟩ (.int .i64 T2)).heap[wr.heap.size]? = some (.cells #[.int .i64 0, .int .i64 at', .int .i64 T2, .int .i64 0, .int .i64 0] 38)) := set5 HZ.out
              clear hb5 hb5' hpn z0 z1 z2 z3 z4 f0' f1' f2' f3' f4' q0 q1 q2 q3 q4 r0 r1 c1 c2 HB4'
              obtain ⟨z0, z1, z2, z3, z4, f0', f1', f2', f3', f4'⟩ := box5 HZ.out
              go_wp2_with (at_builtin; refine wpList_append_own_at _ rfl _ _ 30 rfl w3.heap.size 38 i0 (.agg #[.int .i64 0, .int .i64 0, .int .i64 0, .int .i64 0, .int .i64 0]) 5 40 Tryd.underlying30 hi hz0 hz1 hz2 rfl (by decide) _ _ _ rfl (World.ownsRow.alloc (own_below HO.out HBF.out) _) ⟨w5.heap.size, 0, none⟩ 1 1 [.int .i64 0, .int .i64 at', .int .i64 T2, .int .i64 0, .int .i64 0] rfl rfl ?c1 ?c2 ?c3 ?c4 ?c5 ?_)
              case c1 => exact cell_five _ _ _ _ _ _ _ _ (by simp)
              case c2 => intro x hx; simp only [List.mem_cons, List.not_mem_nil, or_false] at hx; rcases hx with rfl | rfl | rfl | rfl | rfl <;> rfl
              case c3 => have := HL.out; unfold maxLen; omega
              case c4 => have := HL.out; omega
              case c5 => have h1 := HWB.out; have h2 := HSW.out; simp; omega
              intro v' w6 hown5 hgrow5 _ _
              have hst := HG.out.step HGO.out hlt (Nat.le_refl _) ((HBF.out.alloc HBF.out.size _).mono HWB.out) (by rw [HX.out.1, HX.out.2, HNP.out]; exact hown5) hgrow5
              rw [HNP.out] at hst
              have hcl : w6.cell? ⟨wr.heap.size, 2, none⟩ = some (.int .i64 T2) := cell_of_row _ _ 2 _ _ _ ((hgrow5.block wr.heap.size (by have := HSW.out; simp only [World.size_alloc]; omega) (fun e => by have := row_ge HO.out _ e.symm; omega)).trans (heapA HBK.out _))
              have HNn : Hid (∃ x f', II (nxR k (decide (i = n)) t0 c r) f0 t0 acc w3.heap.size w3 v' T2 (l ++ [x]) f' w6) := by obtain ⟨f', h⟩ := hst; exact ⟨_, f', h⟩
              clear hst hown5 hgrow5 HG HO HBF HX HL HBK HSW HNP HZ HSP HNX HGO
              go_wp2
              go_roundw
              case rel => obtain ⟨x, f', h⟩ := HNn.out; exact ⟨_, _, _, f', rfl, by go_num, h⟩
              case measure => simp [intOf]; omega

end Go.Proofs.YtfghdhikjhbbgaeDoor
