import Derived.Test.YtcefemblcifogajTmAl
import Derived.Test.YtcefemblcifogajTmAwk
import Derived.StillTailTactics
namespace Go.Proofs.Ytcefemblcifogaj
open Go.RowKit Go.Maps
set_option linter.unusedVariables false

structure DJ (w : World) (pa la ha pb lb hb sm : Nat) : Prop where
  a : la ≠ pb ∧ la ≠ lb ∧ la ≠ hb ∧ la ≠ sm
  b : lb ≠ pa ∧ lb ≠ la ∧ lb ≠ ha ∧ lb ≠ sm
  low : w.heap.size ≤ la ∧ w.heap.size ≤ lb
/-- Two tables, one beside others; the one session. -/
structure AS (w wr : World) (pa la ha pb lb hb sm : Nat) (La Lb : Tl) : Prop where
  ta : Tb wr pa la ha La []
  tb : Tb wr pb lb hb Lb []
  ab : AB La Lb
  ok : ∀ x ∈ Lb, okK x.1
  m0 : wr.cell? ⟨sm, 0, none⟩ = some (.int .i64 9)
  m1 : wr.cell? ⟨sm, 1, none⟩ = some (.int .i64 9)
  bel : Below w.heap.size w wr
theorem below_low {n n' : Nat} {w w' : World} (h : Below n w w') (hn : n' ≤ n) : Below n' w w' := ⟨h.os, h.tape, h.output, h.size, fun k hk => h.block k (by omega)⟩
theorem AS.low {w wr wx : World} {pa la ha pb lb hb sm : Nat} {La Lb : Tl} (h : AS w wr pa la ha pb lb hb sm La Lb) (hb' : Below wr.heap.size wr wx) : AS w wx pa la ha pb lb hb sm La Lb :=
  ⟨h.ta.keep (S := fun _ => False) (Kq.of_below hb') (fun h => h) (fun h => h) (fun h => h), h.tb.keep (S := fun _ => False) (Kq.of_below hb') (fun h => h) (fun h => h) (fun h => h), h.ab, h.ok, tm_cell h.m0 hb', tm_cell h.m1 hb', h.bel.trans (below_low hb' h.bel.size)⟩
theorem AS.drewN {w wr : World} {pa la ha pb lb hb sm : Nat} {La Lb : Tl} (h : AS w wr pa la ha pb lb hb sm La Lb) (n : Nat) : AS w (wr.drewN n) pa la ha pb lb hb sm La Lb :=
  h.low ⟨rfl, rfl, rfl, Nat.le_refl _, fun _ _ => rfl⟩
theorem AS.len {w wr : World} {pa la ha pb lb hb sm : Nat} {La Lb : Tl} (h : AS w wr pa la ha pb lb hb sm La Lb) : La.length ≤ 480 ∧ Lb.length ≤ 480 := by
  have h1 := ok_len h.tb.nd h.ok
  have h2 := h.ab.le h.ta.nd h.tb.nd
  omega
theorem cell_kq {S : Nat → Prop} {w w' : World} (hk : Kq S w w') {g o : Nat} {u : Value} (h : w.cell? ⟨g, o, none⟩ = some u) (hs : ¬ S g) : w'.cell? ⟨g, o, none⟩ = some u :=
  (World.cell?_of_block (a := ⟨g, o, none⟩) (hk.block g (World.block_lt_of_cell? w ⟨g, o, none⟩ h) hs)).trans h
theorem AS.tb5 {w wr w5 : World} {pa la ha pb lb hb sm : Nat} {La Lb : Tl} (h : AS w wr pa la ha pb lb hb sm La Lb) (hj : DJ w pa la ha pb lb hb sm) (k1 : Kq (· = la) wr w5) : Tb w5 pb lb hb Lb [] :=
  h.tb.keep k1 (fun e => hj.a.1 e.symm) (fun e => hj.a.2.1 e.symm) (fun e => hj.a.2.2.1 e.symm)
theorem AS.two {w wr w5 w6 : World} {pa la ha pb lb hb sm : Nat} {La Lb La' Lb' : Tl} (h : AS w wr pa la ha pb lb hb sm La Lb) (hj : DJ w pa la ha pb lb hb sm) (k1 : Kq (· = la) wr w5) (t5 : Tb w5 pa la ha La' []) (k2 : Kq (· = lb) w5 w6) (t6 : Tb w6 pb lb hb Lb' []) (ab' : AB La' Lb') (ok' : ∀ x ∈ Lb', okK x.1) : AS w w6 pa la ha pb lb hb sm La' Lb' := by
  have b5 : Below w.heap.size w w5 := h.bel.trans (k1.below h.bel.size (fun g hg => by rw [show g = la from hg]; exact hj.low.1))
  exact ⟨t5.keep k2 (fun e => hj.b.1 e.symm) (fun e => hj.b.2.1 e.symm) (fun e => hj.b.2.2.1 e.symm), t6, ab', ok', cell_kq k2 (cell_kq k1 h.m0 (fun e => hj.a.2.2.2 e.symm)) (fun e => hj.b.2.2.2 e.symm), cell_kq k2 (cell_kq k1 h.m1 (fun e => hj.a.2.2.2 e.symm)) (fun e => hj.b.2.2.2 e.symm), b5.trans (k2.below b5.size (fun g hg => by rw [show g = lb from hg]; exact hj.low.2))⟩
theorem AS.b {w wr w6 : World} {pa la ha pb lb hb sm : Nat} {La Lb Lb' : Tl} (h : AS w wr pa la ha pb lb hb sm La Lb) (hj : DJ w pa la ha pb lb hb sm) (k2 : Kq (· = lb) wr w6) (t6 : Tb w6 pb lb hb Lb' []) (ab' : AB La Lb') (ok' : ∀ x ∈ Lb', okK x.1) : AS w w6 pa la ha pb lb hb sm La Lb' :=
  h.two hj (Kq.refl _ _) h.ta k2 t6 ab' ok'
theorem onlyM_step {Y : List Kx} {k : Nat} {y : Kx} (hy : Y[k]? = some y) : onlyM (Y.take (k + 1)) = onlyM (Y.take k) ++ (if sesB 9 9 y = true then [y] else []) := by
  unfold onlyM
  rw [List.take_add_one, hy, List.filter_append]
  congr 1
  simp only [Option.toList_some, List.filter_cons, List.filter_nil]

set_option maxHeartbeats 32000000 in
set_option maxRecDepth 100000 in
theorem alone_walk (a0 a1 : Option Addr) (l o : Tl) (c0 c1 : Nat) (tk : Int) (w : World) (hS : Sta w a0 l) (hO : Sta w a1 o) (hok : ∀ x ∈ l, kW x.1 ∧ kI x.2 = true) (hoo : ∀ x ∈ o, kW x.1 ∧ kI x.2 = true) (hln : l.length ≤ 9223372036854775807) (hom : o.length ≤ 9223372036854775807) (htk : kI tk = true) :
    Calls Try.prog 3 #[.slice a0 l.length c0, .slice a1 o.length c1, .int .i64 tk] w fun e w' => e = .returned (.bool true) ∧ Below w.heap.size w w' := by
  have HS : Hid (Sta w a0 l) := hS
  have HSo : Hid (Sta w a1 o) := hO
  have HOk : Hid (∀ x ∈ l, kW x.1 ∧ kI x.2 = true) := hok
  have HOo : Hid (∀ x ∈ o, kW x.1 ∧ kI x.2 = true) := hoo
  obtain ⟨n, hn⟩ : ∃ n, l.length = n := ⟨_, rfl⟩
  have HN : Hid (l.length = n) := hn
  obtain ⟨m, hm⟩ : ∃ n, o.length = n := ⟨_, rfl⟩
  have HM : Hid (o.length = m) := hm
  rw [hn] at hln
  rw [hm] at hom
  rw [hn, hm]
  have hmix : Try.prog.follows .mixedOrders = true := by kernel_rfl
  have hTk := fun w => pick_any tk 20 w htk (by omega) (by omega)
  have ht1 := pk_lo tk 20 (by omega)
  have ht2 := pk_hi tk 20 (by omega)
  obtain ⟨tn, htn⟩ : ∃ x : Nat, pk tk 20 = x := ⟨(pk tk 20).toNat, by omega⟩
  rw [htn] at hTk ht2
  have hA := awake10_any w
  clear hS hO hok hoo hn hm ht1 htn htk
  go_enter Try.func3, Try.ntmps3
  go_wp2_with fail
  refine hA.mono ?_
  rintro e w1 ⟨rfl, hb1⟩
  have HB1 : Hid (Below w.heap.size w w1) := hb1
  clear hb1 hA
  have hN := new10_any w1
  go_wp2_with fail
  refine hN.mono ?_
  rintro e w2 ⟨rfl, hT2, hb2, hz2⟩
  obtain ⟨la, hla⟩ : ∃ x, w1.heap.size = x := ⟨_, rfl⟩
  obtain ⟨ha, hha⟩ : ∃ x, w1.heap.size + 1 = x := ⟨_, rfl⟩
  obtain ⟨pa, hpa⟩ : ∃ x, w1.heap.size + 2 = x := ⟨_, rfl⟩
  rw [hpa, hha, hla] at hT2
  rw [hpa]
  have HT2 : Hid (Tb w2 pa la ha [] []) := hT2
  have HB2 : Hid (Below w.heap.size w w2) := HB1.out.trans (below_low hb2 HB1.out.size)
  have z1 : w.heap.size ≤ w1.heap.size := HB1.out.size
  clear hT2 hb2 hN HB1
  have hN := new10_any w2
  go_wp2_with fail
  refine hN.mono ?_
  rintro e w3 ⟨rfl, hT3, hb3, hz3⟩
  obtain ⟨lb, hlb⟩ : ∃ x, w2.heap.size = x := ⟨_, rfl⟩
  obtain ⟨hb, hhb⟩ : ∃ x, w2.heap.size + 1 = x := ⟨_, rfl⟩
  obtain ⟨pb, hpb⟩ : ∃ x, w2.heap.size + 2 = x := ⟨_, rfl⟩
  obtain ⟨sm, hsm0⟩ : ∃ x, w3.heap.size = x := ⟨_, rfl⟩
  rw [hpb, hhb, hlb] at hT3
  rw [hpb]
  have hDJ : DJ w pa la ha pb lb hb sm := ⟨by omega, by omega, by omega⟩
  obtain ⟨W, hW⟩ : ∃ W, w3.alloc (.cells #[.int .i64 9, .int .i64 9] 27) = W := ⟨_, rfl⟩
  have HA0 : Hid (AS w W pa la ha pb lb hb sm [] []) := by
    have h3 : AS w w3 pa la ha pb lb hb sm [] [] → True := fun _ => trivial
    show AS _ _ _ _ _ _ _ _ _ _ _
    rw [← hW]
    have t2 := HT2.out.keep (S := fun _ => False) (Kq.of_below hb3) (fun h => h) (fun h => h) (fun h => h)
    have b3 : Below w.heap.size w w3 := HB2.out.trans (below_low hb3 HB2.out.size)
    exact ⟨t2.alloc _, hT3.alloc _, AB.nil, by simp, by rw [← hsm0]; simp, by rw [← hsm0]; simp, b3.alloc b3.size _⟩
  clear hT3 hb3 hN HB2 HT2 hz2 hz3 hla hha hpa hlb hhb hpb z1
  go_wp2
  clear hW hsm0
  go_loopw [11] (fun v wr => ∃ (i : Nat) (La Lb : Tl), v = .int .i64 i ∧ i ≤ n ∧ AS w wr pa la ha pb lb hb sm La Lb) (fun v _ => n - (intOf v).toNat)
  case atStart => exact ⟨0, [], [], rfl, by omega, HA0.out⟩
  case round =>
    clear HA0
    obtain ⟨i, La, Lb, rfl, hi, hAS⟩ := hrel
    have HA : Hid (AS w wr pa la ha pb lb hb sm La Lb) := hAS
    clear hAS
    by_cases hin : i = n
    · subst hin
      have hiz : ¬ (i : Int) < (i : Int) := by omega
      go_wp2
      go_loopw [17] (fun v wr => ∃ (q : Nat) (La Lb : Tl), v = .int .i64 q ∧ q ≤ tn ∧ AS w wr pa la ha pb lb hb sm La Lb) (fun v _ => tn - (intOf v).toNat)
      case atStart => exact ⟨0, La, Lb, rfl, by omega, HA.out⟩
      case round =>
        clear HA
        obtain ⟨q, La, Lb, rfl, hq, hAS⟩ := hrel
        have HA : Hid (AS w wr pa la ha pb lb hb sm La Lb) := hAS
        clear hAS
        have hwq : IntKind.i64.wrap ((q : Int) + 1) = (q : Int) + 1 := by rw [IntKind.wrap_i64]; omega
        go_wp2_with fail
        refine (hTk _).mono ?_
        rintro e w4 ⟨rfl, hw4⟩
        rw [hw4]
        clear hw4 w4
        by_cases hqt : q = tn
        · subst hqt
          have hqz : ¬ (q : Int) < (q : Int) := by omega
          have hC := count10_any pa la ha La [] wr HA.out.ta
          have hDr := drop10_any pb lb hb Lb [] 9 9 wr HA.out.tb (by decide) (by decide) (by have := HA.out.len; omega)
          rw [HA.out.ab.count HA.out.ta.nd HA.out.tb.nd] at hDr
          have m0 := HA.out.m0
          have m1 := HA.out.m1
          obtain ⟨N, hN⟩ : ∃ N, La.length = N := ⟨_, rfl⟩
          rw [hN] at hC hDr
          clear hN
          go_wp2_with fail
          refine hC.mono ?_
          rintro e w5 ⟨rfl, hw5⟩
          rw [hw5]
          clear hw5 w5
          go_wp2_with fail
          refine hDr.mono ?_
          rintro e w6 ⟨rfl, _, hk6⟩
          have B6 : Below w.heap.size w w6 := HA.out.bel.trans (hk6.below HA.out.bel.size (fun g hg => by rw [show g = lb from hg]; exact hDJ.low.2))
          go_wp2
          go_ret
          exact ⟨rfl, B6⟩
        · have hqz : (q : Int) < (tn : Int) := by omega
          have hTa := tick10_any pa la ha La [] wr HA.out.ta (by have := HA.out.len; omega)
          go_wp2_with fail
          refine hTa.mono ?_
          rintro e w5 ⟨vx, rfl, hkx, hT5, hk5⟩
          have hTb := tick10_any pb lb hb Lb [] w5 (HA.out.tb5 hDJ hk5) (by have := HA.out.len; omega)
          have H5 : Hid (KR w5 wr.heap.size vx (srtK (outS La [])) ∧ Tb w5 pa la ha (tickT La []) [] ∧ Kq (· = la) wr w5) := ⟨hkx, hT5, hk5⟩
          clear hkx hT5 hk5 hTa
          go_wp2_with fail
          refine hTb.mono ?_
          rintro e w6 ⟨vy, rfl, hky, hT6, hk6⟩
          have HA6 : Hid (AS w w6 pa la ha pb lb hb sm (tickT La []) (tickT Lb [])) := HA.out.two hDJ H5.out.2.2 H5.out.2.1 hk6 hT6 HA.out.ab.tick (ok_tick HA.out.ok)
          have HKx : Hid (KR w6 wr.heap.size vx (srtK (outS La []))) := H5.out.1.keep hk6 (fun g hg e => by
            have e' : g = lb := e
            have h8 := (World.ownsRow.lt H5.out.1 g hg).1
            have h9 := HA.out.tb.lts.2.1
            omega)
          have HOut : Hid (onlyM (srtK (outS Lb [])) = srtK (outS La [])) := HA.out.ab.out HA.out.ta.nd HA.out.tb.nd
          have HKw : Hid (∀ x ∈ srtK (outS Lb []), kW x) := fun x hx => by
            rw [srtK_mem, outS_mem] at hx
            exact (HA.out.ok _ hx.1).kW
          have hYl : (srtK (outS Lb [])).length ≤ 480 := by
            rw [srtK_len]
            unfold outS
            rw [List.length_map]
            exact Nat.le_trans (List.length_filter_le _ _) HA.out.len.2
          obtain ⟨X, hX⟩ : ∃ X, srtK (outS La []) = X := ⟨_, rfl⟩
          obtain ⟨Y, hY⟩ : ∃ X, srtK (outS Lb []) = X := ⟨_, rfl⟩
          rw [hX] at HKx HOut
          rw [hY] at HOut HKw hYl hky
          obtain ⟨La2, hLa⟩ : ∃ L, tickT La [] = L := ⟨_, rfl⟩
          obtain ⟨Lb2, hLb⟩ : ∃ L, tickT Lb [] = L := ⟨_, rfl⟩
          rw [hLa, hLb] at HA6
          obtain ⟨ay, cy, rfl⟩ := hky.shape
          obtain ⟨ny, hny⟩ : ∃ n, Y.length = n := ⟨_, rfl⟩
          have HNy : Hid (Y.length = ny) := hny
          rw [hny] at hky hYl ⊢
          have HKy : Hid (KR w6 w5.heap.size (.slice ay ny cy) Y) := hky
          obtain ⟨i0, hi0, hz0, hz1, hz2⟩ := info_parts Try.pinfo_key
          clear hT6 hk6 hky hTb H5 HA hX hY hLa hLb hny
          go_wp2
          go_loopw [20, 21] (fun u v wr3 => ∃ k : Nat, v = .int .i64 k ∧ k ≤ ny ∧ KR wr3 w6.heap.size u (onlyM (Y.take k)) ∧ Below w6.heap.size w6 wr3) (fun _ v _ => ny - (intOf v).toNat)
          case atStart => exact ⟨0, rfl, by omega, World.ownsRow_nil _ _ _ _, Below.refl _ _⟩
          case round =>
            obtain ⟨k, rfl, hk, hku, hbu⟩ := hrel
            have HKu : Hid (KR wr w6.heap.size _ (onlyM (Y.take k))) := hku
            have HBu : Hid (Below w6.heap.size w6 wr) := hbu
            clear hku hbu
            have hwk : IntKind.i64.wrap ((k : Int) + 1) = (k : Int) + 1 := by rw [IntKind.wrap_i64]; omega
            have HKy3 : Hid (KR wr w5.heap.size (.slice ay ny cy) Y) := HKy.out.keep (S := fun _ => False) (Kq.of_below HBu.out) (fun _ _ h => h)
            by_cases hkn : k = ny
            · subst hkn
              have hkz : ¬ (k : Int) < (k : Int) := by omega
              have htk2 : onlyM (Y.take k) = X := by rw [← HNy.out, List.take_length]; exact HOut.out
              rw [htk2] at HKu
              have hKx3 := HKx.out.keep (S := fun _ => False) (Kq.of_below HBu.out) (fun _ _ h => h)
              have hXw : ∀ x ∈ X, kW x := fun x hx => by
                rw [← HOut.out] at hx
                exact HKw.out x (List.mem_filter.mp hx).1
              have hXl : X.length ≤ 480 := by rw [← HOut.out]; exact Nat.le_trans (List.length_filter_le _ _) (by rw [HNy.out]; exact hYl)
              have hSk := sameKeys_eq _ _ X vx _ wr hKx3 HKu.out hXw (by omega)
              clear htk2 hKx3 hXw hXl
              go_wp2_with fail
              refine hSk.mono ?_
              rintro e w8 ⟨rfl, r, rfl⟩
              have HA8 : Hid (AS w (wr.drewN r) pa la ha pb lb hb sm La2 Lb2) := (HA6.out.low HBu.out).drewN r
              obtain ⟨wz, hwz⟩ : ∃ W, wr.drewN r = W := ⟨_, rfl⟩
              rw [hwz] at HA8 ⊢
              clear hwz hSk
              by_cases hqm : q < m
              · have hqmz : (q : Int) < (m : Int) := by omega
                obtain ⟨⟨k, c⟩, hx⟩ : ∃ x, o[q]? = some x := ⟨_, List.getElem?_eq_getElem (by rw [HM.out]; omega)⟩
                have hxm := HOo.out _ (List.mem_of_getElem? hx)
                obtain ⟨g, off, rfl, hcell⟩ := (HSo.out.below HA8.out.bel).resolve_left (fun e => by rw [e] at hx; simp at hx)
                obtain ⟨s0, s1, s2, s3, s4, s5⟩ := hcell q _ hx
                have hRt := right_any k wz hxm.1
                have hsm := rgt_small k
                have hPk := fun w => pick_any c 12 w hxm.2 (by omega) (by omega)
                have hp1 := pk_lo c 12 (by omega)
                have hp2 := pk_hi c 12 (by omega)
                obtain ⟨x, hxe⟩ : ∃ x, rgt k = x := ⟨_, rfl⟩
                obtain ⟨nq, hnq⟩ : ∃ x, pk c 12 = x := ⟨_, rfl⟩
                obtain ⟨nn, hnn⟩ : ∃ x, 1 + nq = x := ⟨_, rfl⟩
                rw [hxe] at hRt hsm
                rw [hnq] at hPk hp1 hp2
                have hwn : IntKind.i64.wrap (1 + nq) = nn := by rw [IntKind.wrap_i64]; omega
                have hnb : 1 ≤ nn ∧ nn ≤ 12 := by omega
                have HSm : Hid (smallK x) := hsm
                obtain ⟨k0, k1, k2, k3, k4⟩ := k
                obtain ⟨x0, x1, x2, x3, x4⟩ := x
                simp only at s0 s1 s2 s3 s4 s5
                clear hx hxm hcell hsm hxe hnn hnq
                go_wp2_with fail
                refine hRt.mono ?_
                rintro e w7 ⟨rfl, hb7⟩
                obtain ⟨V, hV⟩ : ∃ V, w7.alloc (kO (x0, x1, x2, x3, x4)) = V := ⟨_, rfl⟩
                obtain ⟨gx, hgx⟩ : ∃ x, w7.heap.size = x := ⟨_, rfl⟩
                have hbV : Below wz.heap.size wz V := by rw [← hV]; exact hb7.alloc hb7.size _
                have t5 : V.drew.cell? ⟨g, off + q * 6 + 5, none⟩ = some (.int .i64 c) := by
                  have h8 : V.cell? ⟨g, off + q * 6 + 5, none⟩ = some (.int .i64 c) := tm_cell s5 hbV
                  exact h8
                have v0 : V.drew.cell? ⟨gx, 0, none⟩ = some (.int .i64 x0) := by rw [← hV, ← hgx]; simp
                have v1 : V.drew.cell? ⟨gx, 1, none⟩ = some (.int .i64 x1) := by rw [← hV, ← hgx]; simp
                have v2 : V.drew.cell? ⟨gx, 2, none⟩ = some (.int .i64 x2) := by rw [← hV, ← hgx]; simp
                have v3 : V.drew.cell? ⟨gx, 3, none⟩ = some (.int .i64 x3) := by rw [← hV, ← hgx]; simp
                have v4 : V.drew.cell? ⟨gx, 4, none⟩ = some (.int .i64 x4) := by rw [← hV, ← hgx]; simp
                have hAV : AS w V.drew pa la ha pb lb hb sm La2 Lb2 := (HA8.out.low hbV).drewN 1
                have HAV : Hid (AS w V.drew pa la ha pb lb hb sm La2 Lb2) := hAV
                have hgV : gx < V.drew.heap.size := by show gx < V.heap.size; rw [← hV, ← hgx]; simp
                have hxb : ¬ gx = lb := by have := HA8.out.tb.lts.2.1; have := hb7.size; omega
                have hSt := start10_ok pb lb hb Lb2 [] (x0, x1, x2, x3, x4) nn V.drew hAV.tb (small_may HSm.out) ⟨hnb.1, by omega⟩ (by have := hAV.len; omega)
                clear hb7 hbV hRt s0 s1 s2 s3 s4 s5 hAV
                go_wp2_with fail
                refine wp_region_still_tail 9 hmix (by kernel_rfl) ?_
                simp only [List.take_succ_cons, List.take_zero, List.drop_succ_cons, List.drop_zero]
                still_step
                still_step
                still_step
                still_step
                still_step
                still_step
                still_step
                still_call (hPk _)
                still_step
                refine wpStill_nil ?_
                show wpList _ _ _ _ _ V.drew
                go_wp2_with fail
                refine hSt.mono ?_
                rintro e w9 ⟨rfl, hT9, hk9⟩
                have HA9 : Hid (AS w w9 pa la ha pb lb hb sm La2 (putT Lb2 (x0, x1, x2, x3, x4) nn)) := HAV.out.b hDJ hk9 hT9 (HAV.out.ab.other (small_ses HSm.out)) (ok_put HAV.out.ok (.inl HSm.out))
                have b9 := hk9.block gx hgV hxb
                have y1 := (World.cell?_of_block (a := ⟨gx, 1, none⟩) b9).trans v1
                have y2 := (World.cell?_of_block (a := ⟨gx, 2, none⟩) b9).trans v2
                have hg9 : gx < w9.heap.size := Nat.lt_of_lt_of_le hgV hk9.size
                clear hT9 hk9 b9 hSt v0 v1 v2 v3 v4 t5 hV
                obtain ⟨m1, hm1⟩ : ∃ x, x = m - 1 := ⟨_, rfl⟩
                obtain ⟨mi, hmi⟩ : ∃ x, x = m1 - q := ⟨_, rfl⟩
                have kz1 : IntKind.i64.wrap ((m : Int) - 1) = (m1 : Int) := by rw [IntKind.wrap_i64]; omega
                have kz2 : IntKind.i64.wrap ((m1 : Int) - (q : Int)) = (mi : Int) := by rw [IntKind.wrap_i64]; omega
                have hmz : (mi : Int) < (m : Int) := by omega
                obtain ⟨⟨kk, cc⟩, hx⟩ : ∃ x, o[mi]? = some x := ⟨_, List.getElem?_eq_getElem (by rw [HM.out]; omega)⟩
                have hxm := HOo.out _ (List.mem_of_getElem? hx)
                obtain ⟨g2, off2, e2, hcell⟩ := (HSo.out.below HA9.out.bel).resolve_left (fun e => by rw [e] at hx; simp at hx)
                cases e2
                obtain ⟨s0, s1, s2, s3, s4, s5⟩ := hcell mi _ hx
                have hRt := right_any kk w9 hxm.1
                have hsm2 := rgt_small kk
                obtain ⟨z, hze⟩ : ∃ x, rgt kk = x := ⟨_, rfl⟩
                rw [hze] at hRt hsm2
                have HSm2 : Hid (smallK z) := hsm2
                obtain ⟨k0, k1, k2, k3, k4⟩ := kk
                obtain ⟨z0, z1, z2, z3, z4⟩ := z
                simp only at s0 s1 s2 s3 s4 s5
                clear hx hxm hcell hsm2 hze hm1 hmi
                go_wp2_with fail
                refine hRt.mono ?_
                rintro e w10 ⟨rfl, hb10⟩
                have hA10 := HA9.out.low hb10
                have hSp := stop10_any pb lb hb _ [] (z0, z1, z2, z3, z4) w10 hA10.tb HSm2.out.kW
                have HA10 : Hid (AS w w10 pa la ha pb lb hb sm La2 (putT Lb2 (x0, x1, x2, x3, x4) nn)) := hA10
                have u1 := tm_cell y1 hb10
                have u2 := tm_cell y2 hb10
                clear hb10 hA10 hRt s0 s1 s2 s3 s4 s5 y1 y2
                go_wp2_with fail
                refine hSp.mono ?_
                rintro e w11 ⟨rfl, hT11, hk11⟩
                have HA11 : Hid (AS w w11 pa la ha pb lb hb sm La2 (delT (putT Lb2 (x0, x1, x2, x3, x4) nn) (z0, z1, z2, z3, z4))) := HA10.out.b hDJ hk11 hT11 (HA10.out.ab.stop (small_ses HSm2.out)) (fun x hx => HA10.out.ok x (mem_delT.mp hx).1)
                have r1 := cell_kq hk11 u1 hxb
                have r2 := cell_kq hk11 u2 hxb
                have hDp := drop10_any pb lb hb _ [] x1 x2 w11 HA11.out.tb HSm.out.kW.2.1 HSm.out.kW.2.2.1 (by have := HA11.out.len; omega)
                clear hT11 hk11 hSp u1 u2
                go_wp2_with fail
                refine hDp.mono ?_
                rintro e w12 ⟨rfl, hT12, hk12⟩
                have HA12 : Hid (AS w w12 pa la ha pb lb hb sm La2 (notS x1 x2 (delT (putT Lb2 (x0, x1, x2, x3, x4) nn) (z0, z1, z2, z3, z4)))) := HA11.out.b hDJ hk12 hT12 (HA11.out.ab.drop (fun e => by have h8 := HSm.out.2.1.2; have h9 : x1 ≤ 3 := h8; omega)) (fun x hx => HA11.out.ok x (List.mem_filter.mp hx).1)
                clear hT12 hk12 hDp r1 r2
                go_wp2
                exact ⟨⟨q + 1, _, _, by simp, by omega, HA12.out⟩, by simp [intOf]; omega⟩
              · have hqmz : ¬ (q : Int) < (m : Int) := by omega
                go_wp2
                exact ⟨⟨q + 1, _, _, by simp, by omega, HA8.out⟩, by simp [intOf]; omega⟩
            · have hkz : (k : Int) < (ny : Int) := by omega
              obtain ⟨y, hy⟩ : ∃ y, Y[k]? = some y := ⟨_, List.getElem?_eq_getElem (by rw [HNy.out]; omega)⟩
              obtain ⟨gy, capy, ey, _, _, _⟩ := HKy3.out.some (by rw [HNy.out]; omega)
              obtain ⟨rfl, hno2, rfl⟩ : ay = some ⟨gy, 0, none⟩ ∧ ny = Y.length ∧ cy = capy := by simpa using ey
              have hky2 := HKw.out y (List.mem_of_getElem? hy)
              have hst := onlyM_step hy
              obtain ⟨y0, y1, y2, y3, y4⟩ := y
              obtain ⟨p0, p1, p2, p3, p4⟩ := HKy3.out.cells hy
              simp only at p0 p1 p2 p3 p4
              have hm0 := tm_cell HA6.out.m0 HBu.out
              have hm1 := tm_cell HA6.out.m1 HBu.out
              have heq := fun w => eql_ses hky2.2.1 hky2.2.2.1 (show kI 9 = true by decide) (show kI 9 = true by decide) w
              have hgd := eqGuard49
              obtain ⟨bq, hbq⟩ : ∃ b, decide (y1 = 9 ∧ y2 = 9) = b := ⟨_, rfl⟩
              simp only at heq
              rw [hbq] at heq
              rw [show sesB 9 9 (y0, y1, y2, y3, y4) = bq from hbq] at hst
              have HSt : Hid (onlyM (Y.take (k + 1)) = onlyM (Y.take k) ++ (if bq = true then [(y0, y1, y2, y3, y4)] else [])) := hst
              clear hy ey hno2 hky2 hbq hst
              go_wp2_with fail
              go_quiet (fail)
              cases bq with
              | false =>
                go_wp2
                refine ⟨⟨k + 1, by simp, by omega, ?_, below_drewN HBu.out _⟩, by simp [intOf]; omega⟩
                rw [HSt.out]
                simp only [Bool.false_eq_true, if_false, List.append_nil]
                exact HKu.out.keep (S := fun _ => False) ((Kq.refl _ _).drewN _) (fun _ _ h => h)
              | true =>
                obtain ⟨V, hV⟩ : ∃ V, wr.drewN nq = V := ⟨_, rfl⟩
                have VB : Hid (Below w6.heap.size w6 V) := by rw [← hV]; exact below_drewN HBu.out _
                have VU : Hid (KR V w6.heap.size u20 (onlyM (Y.take k))) := by rw [← hV]; exact HKu.out.keep (S := fun _ => False) ((Kq.refl _ _).drewN _) (fun _ _ h => h)
                have d0 : V.cell? ⟨gy, k * 5, none⟩ = some (.int .i64 y0) := by rw [← hV]; exact p0
                have d1 : V.cell? ⟨gy, k * 5 + 1, none⟩ = some (.int .i64 y1) := by rw [← hV]; exact p1
                have d2 : V.cell? ⟨gy, k * 5 + 2, none⟩ = some (.int .i64 y2) := by rw [← hV]; exact p2
                have d3 : V.cell? ⟨gy, k * 5 + 3, none⟩ = some (.int .i64 y3) := by rw [← hV]; exact p3
                have d4 : V.cell? ⟨gy, k * 5 + 4, none⟩ = some (.int .i64 y4) := by rw [← hV]; exact p4
                have hol : (onlyM (Y.take k)).length ≤ k := Nat.le_trans (List.length_filter_le _ _) (by rw [List.length_take]; exact Nat.min_le_left _ _)
                have hVz : w6.heap.size ≤ V.heap.size := VB.out.size
                rw [hV]
                clear hV p0 p1 p2 p3 p4 hm0 hm1
                go_wp2_with (first
                  | (at_builtin; refine wpList_append_own_at _ rfl _ _ 36 rfl w6.heap.size 29 i0 (.agg #[.int .i64 0, .int .i64 0, .int .i64 0, .int .i64 0, .int .i64 0]) 5 40 Try.underlying36 hi0 hz0 hz1 hz2 rfl (by decide) u20 (onlyM (Y.take k)).length ((onlyM (Y.take k)).flatMap kV) rfl (World.ownsRow.alloc VU.out _) ⟨V.heap.size, 0, none⟩ 1 1 [.int .i64 y0, .int .i64 y1, .int .i64 y2, .int .i64 y3, .int .i64 y4] rfl rfl (five_new _ _ _ _ _ _ _) (by simp [Value.oneCell']) (by unfold maxLen; omega) (by omega) (by simp; omega) ?_
                     intro v' w8 hown' hgrow hnil hloc; clear hnil)
                  | go_in)
                have hgr8 := (World.grownBy_alloc V (.cells #[.int .i64 y0, .int .i64 y1, .int .i64 y2, .int .i64 y3, .int .i64 y4] 29) u20.ownBlock).trans hgrow
                have B8 : Below w6.heap.size w6 w8 := ⟨hgr8.os.trans VB.out.os, hgr8.tape.trans VB.out.tape, hgr8.output.trans VB.out.output, Nat.le_trans VB.out.size hgr8.size, fun g hg => (hgr8.block g (by omega) (fun e => by have := (World.ownsRow.lt VU.out g e.symm).1; omega)).trans (VB.out.block g hg)⟩
                have R8 : KR w8 w6.heap.size v' (onlyM (Y.take k) ++ [(y0, y1, y2, y3, y4)]) := by
                  have e7 : (onlyM (Y.take k) ++ [(y0, y1, y2, y3, y4)]).flatMap kV = (onlyM (Y.take k)).flatMap kV ++ [.int .i64 y0, .int .i64 y1, .int .i64 y2, .int .i64 y3, .int .i64 y4] := by simp [kV]
                  unfold KR
                  rw [e7, List.length_append]
                  exact hown'
                refine ⟨⟨k + 1, by simp, by omega, ?_, B8⟩, by simp [intOf]; omega⟩
                rw [HSt.out]
                exact R8

    · have hiz : (i : Int) < (n : Int) := by omega
      have hwi : IntKind.i64.wrap ((i : Int) + 1) = (i : Int) + 1 := by rw [IntKind.wrap_i64]; omega
      obtain ⟨⟨k, c⟩, hx⟩ : ∃ x, l[i]? = some x := ⟨_, List.getElem?_eq_getElem (by rw [HN.out]; omega)⟩
      have hxm := HOk.out _ (List.mem_of_getElem? hx)
      obtain ⟨g, off, ea, hcell⟩ := (HS.out.below HA.out.bel).resolve_left (fun e => by rw [e] at hx; simp at hx)
      obtain ⟨s0, s1, s2, s3, s4, s5⟩ := hcell i _ hx
      have hRt := right_any k wr hxm.1
      have hsm := rgt_small k
      have hPk := fun w => pick_any c 12 w hxm.2 (by omega) (by omega)
      have hp1 := pk_lo c 12 (by omega)
      have hp2 := pk_hi c 12 (by omega)
      obtain ⟨x, hxe⟩ : ∃ x, rgt k = x := ⟨_, rfl⟩
      obtain ⟨nq, hnq⟩ : ∃ x, pk c 12 = x := ⟨_, rfl⟩
      obtain ⟨nn, hnn⟩ : ∃ x, 1 + nq = x := ⟨_, rfl⟩
      rw [hxe] at hRt hsm
      rw [hnq] at hPk hp1 hp2
      have hwn : IntKind.i64.wrap (1 + nq) = nn := by rw [IntKind.wrap_i64]; omega
      have hnb : 1 ≤ nn ∧ nn ≤ 12 := by omega
      have HSm : Hid (smallK x) := hsm
      obtain ⟨k0, k1, k2, k3, k4⟩ := k
      obtain ⟨x0, x1, x2, x3, x4⟩ := x
      simp only at s0 s1 s2 s3 s4 s5
      clear hx hxm hcell hsm hxe hnn hnq
      rw [ea]
      clear ea
      go_wp2_with fail
      refine hRt.mono ?_
      rintro e w3 ⟨rfl, hb3⟩
      obtain ⟨V, hV⟩ : ∃ V, w3.alloc (kO (x0, 9, 9, x3, x4)) = V := ⟨_, rfl⟩
      obtain ⟨gx, hgx⟩ : ∃ x, w3.heap.size = x := ⟨_, rfl⟩
      have hbV : Below wr.heap.size wr V := by rw [← hV]; exact hb3.alloc hb3.size _
      have hM0 : ∀ ob, (w3.alloc ob).cell? ⟨sm, 0, none⟩ = some (.int .i64 9) := fun ob => tm_cell HA.out.m0 (hb3.alloc hb3.size ob)
      have hM1 : ∀ ob, (w3.alloc ob).cell? ⟨sm, 1, none⟩ = some (.int .i64 9) := fun ob => tm_cell HA.out.m1 (hb3.alloc hb3.size ob)
      have t5 : V.cell? ⟨g, off + i * 6 + 5, none⟩ = some (.int .i64 c) := tm_cell s5 hbV
      have v0 : V.cell? ⟨gx, 0, none⟩ = some (.int .i64 x0) := by rw [← hV, ← hgx]; simp
      have v1 : V.cell? ⟨gx, 1, none⟩ = some (.int .i64 9) := by rw [← hV, ← hgx]; simp
      have v2 : V.cell? ⟨gx, 2, none⟩ = some (.int .i64 9) := by rw [← hV, ← hgx]; simp
      have v3 : V.cell? ⟨gx, 3, none⟩ = some (.int .i64 x3) := by rw [← hV, ← hgx]; simp
      have v4 : V.cell? ⟨gx, 4, none⟩ = some (.int .i64 x4) := by rw [← hV, ← hgx]; simp
      have hAV : AS w V pa la ha pb lb hb sm La Lb := HA.out.low hbV
      have HAV : Hid (AS w V pa la ha pb lb hb sm La Lb) := hAV
      have hgV : gx < V.heap.size := by rw [← hV, ← hgx]; simp
      have hxa : ¬ gx = la := by have := HA.out.ta.lts.2.1; have := hb3.size; omega
      have hSt := start10_ok pa la ha La [] (x0, 9, 9, x3, x4) nn V hAV.ta (mn_may (k := (x0, x1, x2, x3, x4)) HSm.out) ⟨hnb.1, by omega⟩ (by have := hAV.len; omega)
      clear hb3 hbV hRt s0 s1 s2 s3 s4 s5 hAV
      go_wp2_with fail
      refine (hPk _).mono ?_
      rintro e w4 ⟨rfl, hw4⟩
      rw [hw4]
      clear hw4 w4 hM0 hM1
      go_wp2_with fail
      refine hSt.mono ?_
      rintro e w5 ⟨rfl, hT5, hk5⟩
      have b5 := hk5.block gx hgV hxa
      have y0 := (World.cell?_of_block (a := ⟨gx, 0, none⟩) b5).trans v0
      have y1 := (World.cell?_of_block (a := ⟨gx, 1, none⟩) b5).trans v1
      have y2 := (World.cell?_of_block (a := ⟨gx, 2, none⟩) b5).trans v2
      have y3 := (World.cell?_of_block (a := ⟨gx, 3, none⟩) b5).trans v3
      have y4 := (World.cell?_of_block (a := ⟨gx, 4, none⟩) b5).trans v4
      have HT5 : Hid (Tb w5 pa la ha (putT La (x0, 9, 9, x3, x4) nn) [] ∧ Kq (· = la) V w5) := ⟨hT5, hk5⟩
      have hSb := start10_ok pb lb hb Lb [] (x0, 9, 9, x3, x4) nn w5 (HAV.out.tb5 hDJ hk5) (mn_may (k := (x0, x1, x2, x3, x4)) HSm.out) ⟨hnb.1, by omega⟩ (by have := HAV.out.len; omega)
      clear hT5 hk5 b5 hSt v0 v1 v2 v3 v4 t5 hV
      go_wp2_with fail
      refine hSb.mono ?_
      rintro e w6 ⟨rfl, hT6, hk6⟩
      have HA6 : Hid (AS w w6 pa la ha pb lb hb sm (putT La (x0, 9, 9, x3, x4) nn) (putT Lb (x0, 9, 9, x3, x4) nn)) := HAV.out.two hDJ HT5.out.2 HT5.out.1 hk6 hT6 (HAV.out.ab.both rfl) (ok_put HAV.out.ok (.inr ⟨(x0, x1, x2, x3, x4), HSm.out, rfl⟩))
      clear hT6 hk6 hSb HT5 y0 y1 y2 y3 y4 hPk HSm HAV HA
      obtain ⟨La2, hLa⟩ : ∃ L, putT La (x0, 9, 9, x3, x4) nn = L := ⟨_, rfl⟩
      obtain ⟨Lb2, hLb⟩ : ∃ L, putT Lb (x0, 9, 9, x3, x4) nn = L := ⟨_, rfl⟩
      rw [hLa, hLb] at HA6
      clear hLa hLb hwn hnb hp1 hp2 hgV hxa hgx
      by_cases him : i < m
      · have himz : (i : Int) < (m : Int) := by omega
        obtain ⟨⟨k, c⟩, hx⟩ : ∃ x, o[i]? = some x := ⟨_, List.getElem?_eq_getElem (by rw [HM.out]; omega)⟩
        have hxm := HOo.out _ (List.mem_of_getElem? hx)
        obtain ⟨g, off, rfl, hcell⟩ := (HSo.out.below HA6.out.bel).resolve_left (fun e => by rw [e] at hx; simp at hx)
        obtain ⟨s0, s1, s2, s3, s4, s5⟩ := hcell i _ hx
        have hRt := right_any k w6 hxm.1
        have hsm := rgt_small k
        have hPk := fun w => pick_any c 12 w hxm.2 (by omega) (by omega)
        have hp1 := pk_lo c 12 (by omega)
        have hp2 := pk_hi c 12 (by omega)
        obtain ⟨x, hxe⟩ : ∃ x, rgt k = x := ⟨_, rfl⟩
        obtain ⟨nq, hnq⟩ : ∃ x, pk c 12 = x := ⟨_, rfl⟩
        obtain ⟨nn, hnn⟩ : ∃ x, 1 + nq = x := ⟨_, rfl⟩
        rw [hxe] at hRt hsm
        rw [hnq] at hPk hp1 hp2
        have hwn : IntKind.i64.wrap (1 + nq) = nn := by rw [IntKind.wrap_i64]; omega
        have hnb : 1 ≤ nn ∧ nn ≤ 12 := by omega
        have HSm : Hid (smallK x) := hsm
        obtain ⟨k0, k1, k2, k3, k4⟩ := k
        obtain ⟨x0, x1, x2, x3, x4⟩ := x
        simp only at s0 s1 s2 s3 s4 s5
        clear hx hxm hcell hsm hxe hnn hnq
        go_wp2_with fail
        refine hRt.mono ?_
        rintro e w7 ⟨rfl, hb7⟩
        obtain ⟨V, hV⟩ : ∃ V, w7.alloc (kO (x0, x1, x2, x3, x4)) = V := ⟨_, rfl⟩
        obtain ⟨gx, hgx⟩ : ∃ x, w7.heap.size = x := ⟨_, rfl⟩
        have hbV : Below w6.heap.size w6 V := by rw [← hV]; exact hb7.alloc hb7.size _
        have t5 : V.drew.cell? ⟨g, off + i * 6 + 5, none⟩ = some (.int .i64 c) := by
          have h8 : V.cell? ⟨g, off + i * 6 + 5, none⟩ = some (.int .i64 c) := tm_cell s5 hbV
          exact h8
        have v0 : V.drew.cell? ⟨gx, 0, none⟩ = some (.int .i64 x0) := by rw [← hV, ← hgx]; simp
        have v1 : V.drew.cell? ⟨gx, 1, none⟩ = some (.int .i64 x1) := by rw [← hV, ← hgx]; simp
        have v2 : V.drew.cell? ⟨gx, 2, none⟩ = some (.int .i64 x2) := by rw [← hV, ← hgx]; simp
        have v3 : V.drew.cell? ⟨gx, 3, none⟩ = some (.int .i64 x3) := by rw [← hV, ← hgx]; simp
        have v4 : V.drew.cell? ⟨gx, 4, none⟩ = some (.int .i64 x4) := by rw [← hV, ← hgx]; simp
        have hAV : AS w V.drew pa la ha pb lb hb sm La2 Lb2 := (HA6.out.low hbV).drewN 1
        have HAV : Hid (AS w V.drew pa la ha pb lb hb sm La2 Lb2) := hAV
        have hgV : gx < V.drew.heap.size := by show gx < V.heap.size; rw [← hV, ← hgx]; simp
        have hxb : ¬ gx = lb := by have := HA6.out.tb.lts.2.1; have := hb7.size; omega
        have hSt := start10_ok pb lb hb Lb2 [] (x0, x1, x2, x3, x4) nn V.drew hAV.tb (small_may HSm.out) ⟨hnb.1, by omega⟩ (by have := hAV.len; omega)
        clear hb7 hbV hRt s0 s1 s2 s3 s4 s5 hAV
        go_wp2_with fail
        refine wp_region_still_tail 9 hmix (by kernel_rfl) ?_
        simp only [List.take_succ_cons, List.take_zero, List.drop_succ_cons, List.drop_zero]
        still_step
        still_step
        still_step
        still_step
        still_step
        still_step
        still_step
        still_call (hPk _)
        still_step
        refine wpStill_nil ?_
        show wpList _ _ _ _ _ V.drew
        go_wp2_with fail
        refine hSt.mono ?_
        rintro e w9 ⟨rfl, hT9, hk9⟩
        have HA9 : Hid (AS w w9 pa la ha pb lb hb sm La2 (putT Lb2 (x0, x1, x2, x3, x4) nn)) := HAV.out.b hDJ hk9 hT9 (HAV.out.ab.other (small_ses HSm.out)) (ok_put HAV.out.ok (.inl HSm.out))
        have b9 := hk9.block gx hgV hxb
        have y1 := (World.cell?_of_block (a := ⟨gx, 1, none⟩) b9).trans v1
        have y2 := (World.cell?_of_block (a := ⟨gx, 2, none⟩) b9).trans v2
        have hg9 : gx < w9.heap.size := Nat.lt_of_lt_of_le hgV hk9.size
        clear hT9 hk9 b9 hSt v0 v1 v2 v3 v4 t5 hV
        clear y1 y2
        go_wp2
        exact ⟨⟨i + 1, _, _, by simp, by omega, HA9.out⟩, by simp [intOf]; omega⟩
      · have himz : ¬ (i : Int) < (m : Int) := by omega
        go_wp2
        exact ⟨⟨i + 1, _, _, by simp, by omega, HA6.out⟩, by simp [intOf]; omega⟩

end Go.Proofs.Ytcefemblcifogaj
