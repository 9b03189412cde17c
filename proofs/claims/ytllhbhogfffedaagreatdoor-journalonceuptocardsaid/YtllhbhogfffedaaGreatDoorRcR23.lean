import Derived.Test.YtllhbhogfffedaaGreatDoorRcR22
import Derived.Test.YtllhbhogfffedaaGreatDoorRcApp
namespace Go.Proofs.YtllhbhogfffedaaGreatDoor
open Go.RowKit
set_option linter.unusedVariables false
set_option linter.unusedSimpArgs false

def byt2P (q : Option (List Int)) : List Int × Option (List Int) := match q with
  | none => ([], none)
  | some t => match bytP t with
    | none => ([], none)
    | some (d, t') => (d, some t')
theorem byt2_eq (q : Option (List Int)) : byt2P q = match (num2P q).2 with
    | none => ([], none)
    | some t1 => if (num2P q).1 ≤ t1.length then (t1.take (num2P q).1.toNat, some (t1.drop (num2P q).1.toNat)) else ([], none) := by
  cases q with
  | none => rfl
  | some t =>
    unfold byt2P bytP
    cases hn : numP t with
    | none =>
      have e : num2P (some t) = (0, none) := by unfold num2P; simp only [hn]
      rw [e]
      simp only [hn]
    | some p =>
      obtain ⟨v, t1⟩ := p
      have e : num2P (some t) = (v, some t1) := by unfold num2P; simp only [hn]
      rw [e]
      by_cases h : v ≤ t1.length
      · simp only [hn, if_pos h]
      · simp only [hn, if_neg h]

set_option maxRecDepth 100000 in
set_option maxHeartbeats 4000000 in
theorem bytes2_all (rb g off n c : Nat) (zs : List Int) (q : Option (List Int)) (w : World) (hb : Bytey zs) (h : R2 w rb g off n c zs q) (hgl : g < w.heap.size) :
    Calls Tryz.prog 90 #[.pointer (some ⟨rb, 0, none⟩)] w fun e w' => (∃ v, e = .returned v ∧ w'.ownsRow w.heap.size 5 1 v (byt2P q).1.length ((byt2P q).1.map (Value.int .u8))) ∧ R2 w' rb g off n c zs (byt2P q).2 ∧ w.grownBy w' (some rb) := by
  obtain ⟨i0, hi, hz0, hz1, hz2⟩ := info_parts Tryz.info_u8
  have hbq : ∀ t, q = some t → Bytey t := fun t ht => by rw [← (h.tl t ht).2]; exact bytey_drop hb _
  have hmx := h.mx.1
  have hmc := h.mx.2
  have hnc := h.nc
  have hrl := h.rblt
  have hne := h.ne
  obtain ⟨b1, b2, _⟩ := num2_bd hbq
  obtain ⟨B, hB⟩ : ∃ B, B = byt2P q := ⟨_, rfl⟩
  have HQ : Hid (B = _) := hB.trans (byt2_eq q)
  have HN1 := num2_all rb g off n c zs q w hb h
  rw [← hB]
  clear hbq h hb hB
  generalize (num2P q).1 = N at *
  generalize (num2P q).2 = q1 at *
  go_enter Tryz.func90, Tryz.ntmps90
  go_upto_region 2 with (go_at_call 92; refine HN1.mono ?_; rintro e w1 ⟨rfl, hr1, hg1⟩)
  have HR1 : Hid (R2 w1 rb g off n c zs q1) := hr1
  have HG1 : Hid (w.grownBy w1 (some rb)) := hg1
  have hs1 := hg1.size
  clear hr1 hg1 HN1
  have HBAD : Hid (∀ nq, R2 ((w1.drewN nq).setCell ⟨rb, 2, none⟩ (.bool true)) rb g off n c zs none ∧ w.grownBy ((w1.drewN nq).setCell ⟨rb, 2, none⟩ (.bool true)) (some rb)) := fun nq =>
    ⟨(HR1.out.keep (row := none) (C.grown_drewN w1 nq none) (by simp) (by simp)).bad, grown_trans (grown_trans HG1.out (C.grown_drewN _ _ _)) (grown_set _ _ _ _)⟩
  cases q1 with
  | none =>
    obtain ⟨kk, _, hhb⟩ := HR1.out.hp
    obtain ⟨s0, s1, s2, sf⟩ := r2_cells hhb
    have sf2 := sf 2
    clear hhb sf s0 s1
    have HV : Hid (B = ([], none)) := HQ.out
    clear HQ
    go_quiet (fail)
    go_wp2
    go_ret
    rw [HV.out]
    exact ⟨⟨_, rfl, World.ownsRow_nil _ _ _ _⟩, (HBAD.out _).1, (HBAD.out _).2⟩
  | some t1 =>
    have hhb : w1.heap[rb]? = some (r2O (.slice (some ⟨g, off, none⟩) n c) (n - t1.length) false) := HR1.out.hp
    obtain ⟨hl1, hd1⟩ := HR1.out.tl t1 rfl
    obtain ⟨s0, s1, s2, sf⟩ := r2_cells hhb
    have sf2 := sf 2
    obtain ⟨F, hF⟩ : ∃ F : Nat, F = n - t1.length := ⟨_, rfl⟩
    rw [← hF] at s1
    obtain ⟨a, ha⟩ : ∃ a : Int, a = (F : Int) := ⟨_, rfl⟩
    rw [← ha] at s1
    have ha0 : 0 ≤ a := by omega
    have ha1 : a ≤ (n : Int) := by omega
    have hwn : IntKind.i64.wrap ((n : Int) - a) = (n : Int) - a := by rw [IntKind.wrap_i64]; omega
    have HAE : Hid (a = (F : Int) ∧ F = n - t1.length) := ⟨ha, hF⟩
    have HD1 : Hid (t1.length ≤ n ∧ zs.drop (n - t1.length) = t1) := ⟨hl1, hd1⟩
    have HHB : Hid (w1.heap[rb]? = some (r2O (.slice (some ⟨g, off, none⟩) n c) (n - t1.length) false)) := hhb
    have hFt : F + t1.length = n := by omega
    clear hhb sf hd1 hF
    by_cases hNt : N ≤ t1.length
    · have hle : ¬ (n : Int) - a < N := by omega
      have HV : Hid (B = (t1.take N.toNat, some (t1.drop N.toNat))) := by have := HQ.out; simp only [if_pos hNt] at this; exact this
      clear ha HQ
      go_quiet (fail)
      obtain ⟨w2, hw2⟩ : ∃ x, x = w1.drewN nq := ⟨_, rfl⟩
      rw [← hw2]
      have HR2 : Hid (R2 w2 rb g off n c zs (some t1)) := by rw [hw2]; exact HR1.out.keep (row := none) (C.grown_drewN w1 nq none) (by simp) (by simp)
      have HG2 : Hid (w.grownBy w2 (some rb)) := by rw [hw2]; exact grown_trans HG1.out (C.grown_drewN _ _ _)
      have HH2 : Hid (w2.heap[rb]? = some (r2O (.slice (some ⟨g, off, none⟩) n c) (n - t1.length) false)) := by rw [hw2]; exact HHB.out
      have hs2 : w.heap.size ≤ w2.heap.size := HG2.out.size
      clear s0 s1 s2 sf2 hw2 HR1 HG1 HHB hs1 HBAD
      obtain ⟨m, rfl⟩ : ∃ m : Nat, N = (m : Int) := ⟨N.toNat, by omega⟩
      obtain ⟨s0, s1, s2, sf⟩ := r2_cells HH2.out
      have sf1 := sf 1
      rw [← HAE.out.2] at s1
      have hFa := HAE.out.1
      subst hFa
      have ham : (F : Int) + (m : Int) ≤ (n : Int) := by have := HAE.out.2; omega
      have hF0 : (0 : Int) ≤ (F : Int) := by omega
      obtain ⟨T, hT⟩ : ∃ T : Nat, T = F + m := ⟨_, rfl⟩
      have hFm : (F : Int) ≤ (T : Int) := by omega
      have hac : (T : Int) ≤ (c : Int) := by omega
      have hwm : IntKind.i64.wrap ((F : Int) + (m : Int)) = (T : Int) := by rw [IntKind.wrap_i64]; omega
      have HTF : Hid (T = F + m) := hT
      have hTm : T - F = m := by omega
      clear hT
      have HNW : Hid (∀ W : World, W.heap[g]? = w2.heap[g]? → ∀ j u, ((t1.take m).map (Value.int .u8))[j]? = some u → W.cell? ((⟨g, off + F, none⟩ : Addr).add j) = some u) := fun W hW j u hj => by
        have hjl : j < m ∧ j < t1.length := by
          have := (List.getElem?_eq_some_iff.mp hj).1
          rw [List.length_map, List.length_take] at this
          omega
        have hat : F = n - t1.length := HAE.out.2
        rw [List.getElem?_map, List.getElem?_take, if_pos hjl.1] at hj
        rw [show (⟨g, off + F, none⟩ : Addr).add j = ⟨g, off + (n - t1.length + j), none⟩ from by rw [← hat]; unfold Addr.add; split <;> simp_all [Nat.add_assoc]]
        have h1 := HR2.out.cl (n - t1.length + j) (by have := HD1.out.1; omega)
        have h2 : W.cell? ⟨g, off + (n - t1.length + j), none⟩ = w2.cell? ⟨g, off + (n - t1.length + j), none⟩ := by simp only [World.cell?]; rw [hW]
        rw [h2, h1]
        have h3 : zs[n - t1.length + j]? = t1[j]? := by rw [← List.getElem?_drop, HD1.out.2]
        rw [List.getD_eq_getElem?_getD, h3]
        rw [List.getElem?_eq_getElem hjl.2] at hj ⊢
        simpa using hj
      have htm : (t1.take m).length = m := by rw [List.length_take]; omega
      have HNV : Hid (((t1.take m).map (Value.int .u8)).length = m * 1 ∧ ∀ u ∈ (t1.take m).map (Value.int .u8), u.oneCell' = true) := ⟨by rw [List.length_map, htm, Nat.mul_one], fun u hu => by obtain ⟨y, _, rfl⟩ := List.mem_map.mp hu; rfl⟩
      go_upto_region 6 with fail
      clear sf s2
      by_cases hca : c = F
      · have HM0 : Hid (m = 0) := by unfold Hid; omega
        have hac2 : (T : Int) ≤ (F : Int) := by omega
        go_region_law (first
          | (refine step_append_at rfl (.tmp 28) (.tmp 43) 35 rfl w.heap.size 5 i0 (.int .u8 0) 1 1 Tryz.underlying35 hi hz0 hz1 hz2 rfl (by decide) (.slice none 0 0) 0 [] (by first | rfl | simp [Act.eval, Act.put]) (World.ownsRow_nil _ _ _ _) ⟨g, off, none⟩ m _ ((t1.take m).map (Value.int .u8)) (by first | rfl | simp [Act.eval, Act.put]) HNV.out.1 (fun j u hj => by exfalso; have h1 := (List.getElem?_eq_some_iff.mp hj).1; rw [HNV.out.1, HM0.out] at h1; omega) HNV.out.2 (by unfold maxLen; omega) (by omega) (by simp; omega) ?_
             intro v6 w6 hown6 hgrow6 hat6))
        all_goals (
          have HS6 : Hid (w6.ownsRow w.heap.size 5 1 v6 m ((t1.take m).map (Value.int .u8))) := by
            have := hown6; rw [Nat.zero_add, List.nil_append] at this; exact this
          have hgw : w2.grownBy w6 none := grown_trans (C.grown_drewN w2 1 none) hgrow6
          have HR6 : Hid (R2 w6 rb g off n c zs (some t1)) := HR2.out.keep hgw (by simp) (by simp)
          have HG6 : Hid (w.grownBy w6 (some rb)) := grow_below HG2.out (B := w2.heap.size) ⟨hgw.os, hgw.tape, hgw.output, hgw.size, fun k hk => hgw.block k hk (by simp)⟩ hs2
          clear hown6 hgrow6 hat6 hgw s0 s1 sf1
          have hh6 : w6.heap[rb]? = some (r2O (.slice (some ⟨g, off, none⟩) n c) (n - t1.length) false) := HR6.out.hp
          have HH6 : Hid (w6.heap[rb]? = some (r2O (.slice (some ⟨g, off, none⟩) n c) F false)) := by rw [← HAE.out.2] at hh6; exact hh6
          obtain ⟨z0, z1, z2, zf⟩ := r2_cells HH6.out
          have zf1 := zf 1
          clear hh6 zf
          have HH7 : Hid ((w6.setCell ⟨rb, 1, none⟩ (.int .i64 T)).heap[rb]? = some (r2O (.slice (some ⟨g, off, none⟩) n c) T false)) := by unfold Hid; simp [World.setCell, Array.getElem?_modify, HH6.out]
          have HR7 : Hid (R2 (w6.setCell ⟨rb, 1, none⟩ (.int .i64 T)) rb g off n c zs (some (t1.drop m))) := by
            have htl := tail_of HR6.out.le HD1.out.1 HD1.out.2 (List.take_append_drop m t1).symm
            refine HR6.out.grown (grown_set _ _ _ _) ?_ (fun t ht => by cases ht; exact htl)
            show _ = some (r2O _ (n - (t1.drop m).length) false)
            have e : n - (t1.drop m).length = T := by rw [List.length_drop, HTF.out]; have := HAE.out.2; omega
            rw [e]; exact HH7.out
          have HG7 : Hid (w.grownBy (w6.setCell ⟨rb, 1, none⟩ (.int .i64 T)) (some rb)) := grown_trans HG6.out (grown_set _ _ _ _)
          have HS7 : Hid ((w6.setCell ⟨rb, 1, none⟩ (.int .i64 T)).ownsRow w.heap.size 5 1 v6 m ((t1.take m).map (Value.int .u8))) := own_keep6 HS6.out (grown_set _ _ _ _) (by intro j hj; have := (HS6.out.lt j hj).1; simp; omega)
          go_wp2
          go_ret
          rw [HV.out]
          refine ⟨⟨_, rfl, ?_⟩, ?_, HG7.out⟩
          · show World.ownsRow _ _ _ 1 _ (t1.take ((m : Int).toNat)).length _
            rw [Int.toNat_natCast, htm]
            exact HS7.out
          · show R2 _ _ _ _ _ _ _ (some (t1.drop ((m : Int).toNat)))
            rw [Int.toNat_natCast]
            first | exact HR7.out | exact hca ▸ HR7.out)
      · go_region_law (first
          | (refine step_append_at rfl (.tmp 28) (.tmp 43) 35 rfl w.heap.size 5 i0 (.int .u8 0) 1 1 Tryz.underlying35 hi hz0 hz1 hz2 rfl (by decide) (.slice none 0 0) 0 [] (by first | rfl | simp [Act.eval, Act.put]) (World.ownsRow_nil _ _ _ _) ⟨g, off + F, none⟩ m (c - F) ((t1.take m).map (Value.int .u8)) (by first | rfl | simp [Act.eval, Act.put]) HNV.out.1 (HNW.out _ rfl) HNV.out.2 (by unfold maxLen; omega) (by omega) (by simp; omega) ?_
             intro v6 w6 hown6 hgrow6 hat6))
        all_goals (
          have HS6 : Hid (w6.ownsRow w.heap.size 5 1 v6 m ((t1.take m).map (Value.int .u8))) := by
            have := hown6; rw [Nat.zero_add, List.nil_append] at this; exact this
          have hgw : w2.grownBy w6 none := grown_trans (C.grown_drewN w2 1 none) hgrow6
          have HR6 : Hid (R2 w6 rb g off n c zs (some t1)) := HR2.out.keep hgw (by simp) (by simp)
          have HG6 : Hid (w.grownBy w6 (some rb)) := grow_below HG2.out (B := w2.heap.size) ⟨hgw.os, hgw.tape, hgw.output, hgw.size, fun k hk => hgw.block k hk (by simp)⟩ hs2
          clear hown6 hgrow6 hat6 hgw s0 s1 sf1
          have hh6 : w6.heap[rb]? = some (r2O (.slice (some ⟨g, off, none⟩) n c) (n - t1.length) false) := HR6.out.hp
          have HH6 : Hid (w6.heap[rb]? = some (r2O (.slice (some ⟨g, off, none⟩) n c) F false)) := by rw [← HAE.out.2] at hh6; exact hh6
          obtain ⟨z0, z1, z2, zf⟩ := r2_cells HH6.out
          have zf1 := zf 1
          clear hh6 zf
          have HH7 : Hid ((w6.setCell ⟨rb, 1, none⟩ (.int .i64 T)).heap[rb]? = some (r2O (.slice (some ⟨g, off, none⟩) n c) T false)) := by unfold Hid; simp [World.setCell, Array.getElem?_modify, HH6.out]
          have HR7 : Hid (R2 (w6.setCell ⟨rb, 1, none⟩ (.int .i64 T)) rb g off n c zs (some (t1.drop m))) := by
            have htl := tail_of HR6.out.le HD1.out.1 HD1.out.2 (List.take_append_drop m t1).symm
            refine HR6.out.grown (grown_set _ _ _ _) ?_ (fun t ht => by cases ht; exact htl)
            show _ = some (r2O _ (n - (t1.drop m).length) false)
            have e : n - (t1.drop m).length = T := by rw [List.length_drop, HTF.out]; have := HAE.out.2; omega
            rw [e]; exact HH7.out
          have HG7 : Hid (w.grownBy (w6.setCell ⟨rb, 1, none⟩ (.int .i64 T)) (some rb)) := grown_trans HG6.out (grown_set _ _ _ _)
          have HS7 : Hid ((w6.setCell ⟨rb, 1, none⟩ (.int .i64 T)).ownsRow w.heap.size 5 1 v6 m ((t1.take m).map (Value.int .u8))) := own_keep6 HS6.out (grown_set _ _ _ _) (by intro j hj; have := (HS6.out.lt j hj).1; simp; omega)
          go_wp2
          go_ret
          rw [HV.out]
          refine ⟨⟨_, rfl, ?_⟩, ?_, HG7.out⟩
          · show World.ownsRow _ _ _ 1 _ (t1.take ((m : Int).toNat)).length _
            rw [Int.toNat_natCast, htm]
            exact HS7.out
          · show R2 _ _ _ _ _ _ _ (some (t1.drop ((m : Int).toNat)))
            rw [Int.toNat_natCast]
            first | exact HR7.out | exact hca ▸ HR7.out)
    · have hgt : (n : Int) - a < N := by omega
      have HV : Hid (B = ([], none)) := by have := HQ.out; simp only [if_neg hNt] at this; exact this
      clear ha HQ
      go_quiet (fail)
      go_wp2
      go_ret
      rw [HV.out]
      exact ⟨⟨_, rfl, World.ownsRow_nil _ _ _ _⟩, (HBAD.out _).1, (HBAD.out _).2⟩
end Go.Proofs.YtllhbhogfffedaaGreatDoor

namespace Go.Proofs.YtllhbhogfffedaaGreatDoor
open Go.RowKit
set_option linter.unusedVariables false

/-- The digits from the last one on. -/
def lowV (n : Int) (k : Nat) : List Value := (tl n k).reverse.map (Value.int .u8)
end Go.Proofs.YtllhbhogfffedaaGreatDoor
