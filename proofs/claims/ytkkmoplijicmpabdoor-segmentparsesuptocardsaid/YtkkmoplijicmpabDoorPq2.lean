import Derived.Test.YtkkmoplijicmpabDoorPq1
import Derived.Test.YtkkmoplijicmpabDoorStp
namespace Go.Proofs.YtkkmoplijicmpabDoor
open Go.RowKit
set_option linter.unusedVariables false
set_option linter.unusedSimpArgs false

theorem lies_news {w : World} {x : Addr} {D : List Int} (h : Lies .u8 w (some x) D) : ∀ j u, (D.map (Value.int .u8))[j]? = some u → w.cell? (x.add j) = some u := by
  intro j u hj
  have hjl : j < D.length := by have := (List.getElem?_eq_some_iff.mp hj).1; rwa [List.length_map] at this
  rcases h with h | ⟨g, off, hx, h⟩
  · rw [h] at hjl; simp at hjl
  · simp only [Option.some.injEq] at hx
    subst hx
    rw [show (⟨g, off, none⟩ : Addr).add j = ⟨g, off + j, none⟩ from by unfold Addr.add; split <;> simp_all]
    rw [h j hjl]
    rw [List.getElem?_map, List.getElem?_eq_getElem hjl] at hj
    simp only [Option.map_some, Option.some.injEq] at hj
    rw [← hj, List.getD_eq_getElem?_getD, List.getElem?_eq_getElem hjl]
    rfl

def BytQ (b : Nat) (a : Option Addr) (len cap : Nat) (zs : List Int) (st : St) (n : Int) (w : World) (e : Ending) (w' : World) : Prop :=
  ∃ a' c d st', e = .returned (.slice a' d.length c) ∧ w'.ownsRow w.heap.size 5 1 (.slice a' d.length c) d.length (d.map (Value.int .u8)) ∧ d.length ≤ 70000 ∧ Bytey d ∧ Aq w' b a len cap zs st' ∧ w.grownBy w' (some b) ∧ Step zs (rowp n) st d st' ∧ (st'.1 = 0 → st.1 = 0)

set_option maxRecDepth 100000 in
set_option maxHeartbeats 4000000 in
theorem bytq_any {b len cap : Nat} {a : Option Addr} {zs : List Int} {st : St} {w : World} (n : Int) (hn0 : 0 ≤ n) (hn1 : n ≤ 4611686018427387903) (hne : st.1 = 0 → a ≠ none) (h : Aq w b a len cap zs st) :
    Calls Tryd.prog 68 #[.pointer (some ⟨b, 0, none⟩), .int .i64 n] w (BytQ b a len cap zs st n w) := by
  obtain ⟨i0, hi, hz0, hz1, hz2⟩ := info_parts Tryd.info_u8
  have HA : Hid (Aq w b a len cap zs st) := h
  have c0 := h.cur.c0
  have c1 := h.cur.c1
  have c2 := h.cur.c2
  have z1 := h.cur.fz 1
  have z2 := h.cur.fz 2
  have hsm := h.src.small
  have hro := h.src.room
  have hmo := h.src.most
  have hlen := h.src.length
  have hp := h.place
  clear h
  obtain ⟨f, p⟩ := st
  simp only at c1 c2 hp hne
  by_cases hf : f = 0
  · subst hf
    obtain ⟨x, rfl⟩ : ∃ x, a = some x := by
      cases a with
      | none => exact absurd rfl (hne rfl)
      | some x => exact ⟨x, rfl⟩
    clear hne
    have hwn : IntKind.i64.wrap ((len : Int) - (p : Int)) = (len : Int) - (p : Int) := by rw [IntKind.wrap_i64]; omega
    by_cases hgt : (len : Int) - (p : Int) < n
    · have HZ : Hid (rowp n (zs.drop p) = .bad 20) := by show _ = _; unfold rowp; rw [if_pos (by simp [hlen]; omega)]
      go_enter Tryd.func68, Tryd.ntmps68
      go_upto_region 3 with fail
      go_quiet (fail)
      go_wp2
      go_ret
      have hAd := HA.out.drewN nq
      exact ⟨none, 0, [], (20, p), rfl, World.ownsRow_nil _ _ _ _, by simp, (fun z hz => by cases hz), hAd.grown (grown_set _ _ _ _) (hAd.cur.set2 20) HA.out.place (by simp), grown_trans (grown_drewN _ _ _) (grown_set _ _ _ _), Step.fault _ _ _ rfl (by omega) HZ.out, fun h => by simp at h⟩
    · obtain ⟨m, rfl⟩ : ∃ m : Nat, n = (m : Int) := ⟨n.toNat, by omega⟩
      have hle : ¬ (len : Int) - (p : Int) < (m : Int) := hgt
      have HZ : Hid (rowp m (zs.drop p) = .ok ((zs.drop p).take m) (zs.drop (p + m))) := by show _ = _; unfold rowp; rw [if_neg (by simp [hlen]; omega), Int.toNat_natCast, List.drop_drop]
      have HL : Hid (Lies .u8 w (some (x.add p)) ((zs.drop p).take m)) := take_lies (lies_add HA.out.src.lies p) m
      have hdm : ((zs.drop p).take m).length = m := by simp [hlen]; omega
      have HBy : Hid (Bytey ((zs.drop p).take m)) := fun z hz => HA.out.src.bytes z (List.mem_of_mem_drop (List.mem_of_mem_take hz))
      have HDm : Hid (((zs.drop p).take m).length = m) := hdm
      generalize (zs.drop p).take m = D at *
      obtain ⟨T, hT⟩ : ∃ T : Nat, T = p + m := ⟨_, rfl⟩
      have hwm : IntKind.i64.wrap ((p : Int) + (m : Int)) = (p : Int) + (m : Int) := by rw [IntKind.wrap_i64]; omega
      have hpT : (p : Int) ≤ (T : Int) := by omega
      have hp0 : (0 : Int) ≤ (p : Int) := by omega
      have hTc : (T : Int) ≤ (cap : Int) := by omega
      have hTm : T - p = m := by omega
      have HT : Hid (T = p + m ∧ T ≤ len ∧ m ≤ 8192 ∧ p ≤ 8192) := ⟨hT, by omega, by omega, by omega⟩
      have htn : Int.toNat (p : Int) = p := by omega
      have e1 : 0 ≤ (p : Int) + (m : Int) := by omega
      have e2 : (p : Int) + (m : Int) ≤ (cap : Int) := by omega
      have e3 : ((p : Int) + (m : Int)).toNat = T := by omega
      have e4 : p ≤ T := by omega
      have HNV : Hid ((D.map (Value.int .u8)).length = m * 1 ∧ ∀ u ∈ D.map (Value.int .u8), u.oneCell' = true) := ⟨by rw [List.length_map, hdm, Nat.mul_one], fun u hu => by obtain ⟨y, _, rfl⟩ := List.mem_map.mp hu; rfl⟩
      clear hdm
      go_enter Tryd.func68, Tryd.ntmps68
      go_upto_region 3 with fail
      go_quiet (fail)
      obtain ⟨w2, hw2⟩ : ∃ q, q = w.drewN nq := ⟨_, rfl⟩
      rw [← hw2]
      have HA2 : Hid (Aq w2 b (some x) len cap zs (0, p)) := by rw [hw2]; exact HA.out.drewN nq
      have HG2 : Hid (w.grownBy w2 (some b)) := by rw [hw2]; exact grown_drewN _ _ _
      have HL2 : Hid (Lies .u8 w2 (some (x.add p)) D) := by rw [hw2]; exact HL.out
      have hsz2 : w2.heap.size = w.heap.size := by rw [hw2]; rfl
      have d0 := HA2.out.cur.c0
      have d1 := HA2.out.cur.c1
      have y1 := HA2.out.cur.fz 1
      clear c0 c1 c2 z1 z2 hw2 HL HA
      go_upto_region 7 with fail
      by_cases hcp : cap = p
      · have HM0 : Hid (m = 0) := by show _ = _; omega
        have e5 : (p : Int) + (m : Int) ≤ (p : Int) := by omega
        go_region_law (first
          | (refine step_append_at rfl (.tmp 26) (.tmp 41) 25 rfl w.heap.size 5 i0 (.int .u8 0) 1 1 Tryd.underlying25 hi hz0 hz1 hz2 rfl (by decide) (.slice none 0 0) 0 [] (by first | rfl | simp [Act.eval, Act.put]) (World.ownsRow_nil _ _ _ _) x m _ (D.map (Value.int .u8)) (by first | rfl | simp [Act.eval, Act.put]) HNV.out.1 (fun j u hj => by exfalso; have h1 := (List.getElem?_eq_some_iff.mp hj).1; rw [HNV.out.1, HM0.out] at h1; omega) HNV.out.2 (by have := HT.out; unfold maxLen; omega) (by have := HT.out; omega) (by simp; omega) ?_
             intro v6 w6 hown6 hgrow6 hat6))
        all_goals (
          have hgw : w2.grownBy w6 none := grown_trans (grown_drewN w2 1 none) hgrow6
          have HS6 : Hid (w6.ownsRow w.heap.size 5 1 v6 m (D.map (Value.int .u8))) := by
            have := hown6; rw [Nat.zero_add, List.nil_append] at this; exact this
          have hbl : Below w2.heap.size w2 w6 := ⟨hgw.os, hgw.tape, hgw.output, hgw.size, fun k hk => hgw.block k hk (by simp)⟩
          have HA6 : Hid (Aq w6 b (some x) len cap zs (0, p)) := HA2.out.other hbl
          have HG6 : Hid (w.grownBy w6 (some b)) := grown_trans HG2.out (below_grown hbl)
          have HSz : Hid (b < w.heap.size) := by have := HA2.out.lt; show b < _; omega
          clear hown6 hgrow6 hat6 hgw hbl d0 d1 y1
          have d1 := HA6.out.cur.c1
          have y1 := HA6.out.cur.fz 1
          obtain ⟨av, cv, hv⟩ := own_shape HS6.out
          subst hv
          go_wp2
          go_ret
          have hdm := HDm.out
          subst hdm
          refine ⟨av, cv, D, (0, p + D.length), rfl, own_keep HS6.out (grown_set _ _ _ _) (fun k hk e => by have := (HS6.out.lt k hk).1; have := HSz.out; simp at e; omega), by have := HT.out; omega, HBy.out, (hcp ▸ HA6.out : Aq w6 b (some x) len p zs (0, p)).grown (grown_set _ _ _ _) ((hcp ▸ HA6.out.cur : Cq w6 b (some x) len p (0, p)).set1 (p + D.length) ((p : Int) + (D.length : Int)) (by omega)) (by have := HT.out; simp only; omega) (by simp), grown_trans HG6.out (grown_set _ _ _ _), Step.good _ _ rfl HZ.out, fun _ => rfl⟩)
      · go_region_law (first
          | (refine step_append_at rfl (.tmp 26) (.tmp 41) 25 rfl w.heap.size 5 i0 (.int .u8 0) 1 1 Tryd.underlying25 hi hz0 hz1 hz2 rfl (by decide) (.slice none 0 0) 0 [] (by first | rfl | simp [Act.eval, Act.put]) (World.ownsRow_nil _ _ _ _) (x.add p) m (cap - p) (D.map (Value.int .u8)) (by first | rfl | simp [Act.eval, Act.put]) HNV.out.1 (lies_news HL2.out) HNV.out.2 (by have := HT.out; unfold maxLen; omega) (by have := HT.out; omega) (by simp; omega) ?_
             intro v6 w6 hown6 hgrow6 hat6))
        all_goals (
          have hgw : w2.grownBy w6 none := grown_trans (grown_drewN w2 1 none) hgrow6
          have HS6 : Hid (w6.ownsRow w.heap.size 5 1 v6 m (D.map (Value.int .u8))) := by
            have := hown6; rw [Nat.zero_add, List.nil_append] at this; exact this
          have hbl : Below w2.heap.size w2 w6 := ⟨hgw.os, hgw.tape, hgw.output, hgw.size, fun k hk => hgw.block k hk (by simp)⟩
          have HA6 : Hid (Aq w6 b (some x) len cap zs (0, p)) := HA2.out.other hbl
          have HG6 : Hid (w.grownBy w6 (some b)) := grown_trans HG2.out (below_grown hbl)
          have HSz : Hid (b < w.heap.size) := by have := HA2.out.lt; show b < _; omega
          clear hown6 hgrow6 hat6 hgw hbl d0 d1 y1
          have d1 := HA6.out.cur.c1
          have y1 := HA6.out.cur.fz 1
          obtain ⟨av, cv, hv⟩ := own_shape HS6.out
          subst hv
          go_wp2
          go_ret
          have hdm := HDm.out
          subst hdm
          refine ⟨av, cv, D, (0, p + D.length), rfl, own_keep HS6.out (grown_set _ _ _ _) (fun k hk e => by have := (HS6.out.lt k hk).1; have := HSz.out; simp at e; omega), by have := HT.out; omega, HBy.out, HA6.out.grown (grown_set _ _ _ _) (HA6.out.cur.set1 (p + D.length) ((p : Int) + (D.length : Int)) (by omega)) (by have := HT.out; simp only; omega) (by simp), grown_trans HG6.out (grown_set _ _ _ _), Step.good _ _ rfl HZ.out, fun _ => rfl⟩)
  · have hb : (f != 0) = true := by simp [hf]
    have HF : Hid (f ≠ 0) := hf
    clear hf hne
    go_enter Tryd.func68, Tryd.ntmps68
    go_wp2
    go_ret
    exact ⟨none, 0, [], (f, p), rfl, World.ownsRow_nil _ _ _ _, by simp, (fun z hz => by cases hz), HA.out, World.grownBy.refl _ _, Step.bad _ HF.out, id⟩

end Go.Proofs.YtkkmoplijicmpabDoor
