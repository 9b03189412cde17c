import Derived.Test.YticdedcgmofpjaaDoorDkPt
namespace Go.Proofs.YticdedcgmofpjaaDoor.K
open Go.RowKit
set_option linter.unusedVariables false
set_option linter.unusedSimpArgs false

/-! ## platter.same of files that are those of the page -/
section
variable {w w' : World} {v : Value} {L : List Fv}
theorem Fo.below (h : Fo w v L) (hb : Below w.heap.size w w') : Fo w' v L :=
  ⟨d_blk h.row (fun g hg => hb.block g (d_lt h.row g hg).2), fun i p hp => d_blk (h.byt i p hp) (fun g hg => hb.block g (d_lt (h.byt i p hp) g hg).2)⟩
theorem Fo.at (h : Fo w v L) {i : Nat} {p : Fv} (hp : L[i]? = some p) : ∃ g cap, v = .slice (some ⟨g, 0, none⟩) L.length cap ∧ w.cell? ⟨g, i * 3, none⟩ = some (.string p.1.nm) ∧ w.cell? ⟨g, i * 3 + 1, none⟩ = some p.2 ∧ w.cell? ⟨g, i * 3 + 2, none⟩ = some (.int .i64 p.1.sf) := by
  have hi := (List.getElem?_eq_some_iff.mp hp).1
  have hr := h.row
  obtain ⟨g, cap, hv⟩ := d_some h.row (by omega)
  obtain ⟨k0, k1, k2⟩ := fcell_get hp
  subst hv
  exact ⟨g, cap, rfl, (World.ownsRow.cellAt hr _ (by omega)).trans k0, (World.ownsRow.cellAt hr _ (by omega)).trans k1, (World.ownsRow.cellAt hr _ (by omega)).trans k2⟩
/-- A byte of a row of bytes. -/
theorem byte_at {bs : List Int} {k : Nat} (h : w.ownsRow 0 5 1 v bs.length (bs.map (Value.int .u8))) (hk : k < bs.length) : ∃ g cap, v = .slice (some ⟨g, 0, none⟩) bs.length cap ∧ w.cell? ⟨g, k, none⟩ = some (.int .u8 (bs.getD k 0)) := by
  obtain ⟨g, cap, hv, _, hc, _⟩ := row_cell h (i := k) (u := .int .u8 (bs.getD k 0)) (by rw [List.getElem?_map, List.getElem?_eq_getElem hk, List.getD_eq_getElem?_getD, List.getElem?_eq_getElem hk]; rfl)
  exact ⟨g, cap, hv, hc⟩
end
def Sj (w : World) (n : Nat) (v : Value) (wr : World) : Prop := ∃ i : Nat, v = .int .i64 i ∧ i ≤ n ∧ Below w.heap.size w wr

set_option maxHeartbeats 8000000 in
set_option maxRecDepth 100000 in
theorem same_any (w : World) (x : Nat) (F : Nat → Prop) (D : Dk) (B : Nat) (v : Value) (Lo : List Fv) (hP : Pm w x F D) (hk : D.Ok B) (hB : B ≤ 1099511627776) (hF : Fo w v Lo) (hm : Lo.map (·.1) = D.fs) : Calls Tryd.prog 19 #[.pointer (some ⟨x, 0, none⟩), v] w fun e w' => e = .returned (.bool true) ∧ Hid (Below w.heap.size w w') := by
  obtain ⟨vn, vb, vs, L, hc⟩ := hP
  obtain ⟨n, hn⟩ : ∃ n, D.fs.length = n := ⟨_, rfl⟩
  have hnb : n ≤ 1099511627776 := by have := hk.len; omega
  have hLn : L.length = n := by rw [← hc.len, hn]
  have hLo : Lo.length = n := by rw [← hn, ← hm, List.length_map]
  obtain ⟨an, cn, hvn⟩ := d_shape hc.rn
  obtain ⟨ab, cb, hvb⟩ := d_shape hc.rb
  obtain ⟨as', cs, hvs⟩ := d_shape hc.rs
  rw [hLn] at hvn hvb hvs
  subst hvn hvb hvs
  obtain ⟨ao, co, hvo⟩ := d_shape hF.row
  rw [hLo] at hvo
  subst hvo
  have HC : Hid (Pc w x F D (.slice an n cn) (.slice ab n cb) (.slice as' n cs) L ∧ L.length = n ∧ Lo.length = n ∧ Fo w (.slice ao n co) Lo ∧ Lo.map (·.1) = D.fs ∧ D.Ok B) := ⟨hc, hLn, hLo, hF, hm, hk⟩
  have c0 : w.cell? ⟨x, 0, none⟩ = some (.slice an n cn) := hc.c 0
  have hne0 : ((n : Int) != (n : Int)) = false := by simp
  clear hc hn hLn hLo hF hm hk
  go_enter Tryd.func19, Tryd.ntmps19
  go_wp2
  clear c0 hne0
  go_loopw [5] (fun v wr => Sj w n v wr) (fun v _ => n - (intOf v).toNat)
  case atStart => exact ⟨0, rfl, by omega, Below.refl _ _⟩
  case round =>
    obtain ⟨i, rfl, hi, hBe⟩ := hrel
    have HBe : Hid (Below w.heap.size w wr) := hBe
    by_cases hin : i = n
    · have hin2 := hin.symm
      clear hin
      subst hin2
      have hz : ¬ (n : Int) < (n : Int) := by omega
      clear hBe
      go_wp2
      go_ret
      exact ⟨rfl, HBe.out⟩
    · have hz : (i : Int) < (n : Int) := by omega
      have hi0 : (0 : Int) ≤ (i : Int) := by omega
      have hwi : IntKind.i64.wrap ((i : Int) + 1) = (i : Int) + 1 := by rw [IntKind.wrap_i64]; omega
      obtain ⟨q, hq⟩ : ∃ q, L[i]? = some q := ⟨_, List.getElem?_eq_getElem (by rw [HC.out.2.1]; omega)⟩
      obtain ⟨p, hp⟩ : ∃ p, Lo[i]? = some p := ⟨_, List.getElem?_eq_getElem (by rw [HC.out.2.2.1]; omega)⟩
      have hpq : p.1 = q.1 := by
        have h1 := HC.out.1.file hq
        rw [← HC.out.2.2.2.2.1, List.getElem?_map, hp] at h1
        exact Option.some.inj h1
      have hfl : q.1.bs.length ≤ 1099511627776 := by have := usd_get (HC.out.1.file hq); have := HC.out.2.2.2.2.2.used; have hB' := hB; omega
      have hcr := HC.out.1.same (w' := wr) (fun j _ hj => hBe.block j hj)
      have hfr := HC.out.2.2.2.1.below hBe
      obtain ⟨gn, cn', hvn, _, kn, _⟩ := row_cell hcr.rn (i := i) (u := .string q.1.nm) (by rw [List.getElem?_map, hq]; rfl)
      obtain ⟨gb, cb', hvb, _, kb, _⟩ := row_cell hcr.rb (i := i) (u := q.2) (by rw [List.getElem?_map, hq]; rfl)
      obtain ⟨gs, cs', hvs, _, ks, _⟩ := row_cell hcr.rs (i := i) (u := .int .i64 q.1.sf) (by rw [List.getElem?_map, hq]; rfl)
      obtain ⟨go, co', hvo, ko0, ko1, ko2⟩ := hfr.at hp
      obtain ⟨rfl, -, rfl⟩ : an = some ⟨gn, 0, none⟩ ∧ n = L.length ∧ cn = cn' := by simpa using hvn
      obtain ⟨rfl, -, rfl⟩ : ab = some ⟨gb, 0, none⟩ ∧ n = L.length ∧ cb = cb' := by simpa using hvb
      obtain ⟨rfl, -, rfl⟩ : as' = some ⟨gs, 0, none⟩ ∧ n = L.length ∧ cs = cs' := by simpa using hvs
      obtain ⟨rfl, -, rfl⟩ : ao = some ⟨go, 0, none⟩ ∧ n = Lo.length ∧ co = co' := by simpa using hvo
      have c0 : wr.cell? ⟨x, 0, none⟩ = some (.slice (some ⟨gn, 0, none⟩) n cn) := hcr.c 0
      have c1 : wr.cell? ⟨x, 1, none⟩ = some (.slice (some ⟨gb, 0, none⟩) n cb) := hcr.c 1
      have c2 : wr.cell? ⟨x, 2, none⟩ = some (.slice (some ⟨gs, 0, none⟩) n cs) := hcr.c 2
      obtain ⟨a1, d1, hp2⟩ := d_shape (hfr.byt i p hp)
      obtain ⟨a2, d2, hq2⟩ := d_shape (hcr.byt i q hq)
      obtain ⟨⟨nm, bs, sf⟩, qv⟩ := q
      obtain ⟨pf, pv⟩ := p
      simp only at hpq hp2 hq2 kn kb ks ko0 ko1 ko2 hfl
      subst hpq
      simp only at hp2 ko0 ko2
      subst hp2 hq2
      obtain ⟨m, hm⟩ : ∃ m, bs.length = m := ⟨_, rfl⟩
      rw [hm] at kb ko1 hfl
      have he1 : (nm.toList == nm.toList) = true := by simp
      have he2 : (sf != sf) = false := by simp
      have he3 : ((m : Int) != (m : Int)) = false := by simp
      have HB1 : Hid (∀ U : World, Below w.heap.size w U → U.cell? ⟨go, i * 3 + 1, none⟩ = some (.slice a1 m d1) ∧ U.cell? ⟨x, 1, none⟩ = some (.slice (some ⟨gb, 0, none⟩) n cb) ∧ U.cell? ⟨gb, i, none⟩ = some (.slice a2 m d2) ∧ ∀ k, k < m → (∃ g, a1 = some ⟨g, 0, none⟩ ∧ U.cell? ⟨g, k, none⟩ = some (.int .u8 (bs.getD k 0))) ∧ ∃ g, a2 = some ⟨g, 0, none⟩ ∧ U.cell? ⟨g, k, none⟩ = some (.int .u8 (bs.getD k 0))) := fun U hU => by
        have hcU := HC.out.1.same (w' := U) (fun j _ hj => hU.block j hj)
        have hfU := HC.out.2.2.2.1.below hU
        obtain ⟨_, _, e1, _, q1, _⟩ := row_cell hcU.rb (i := i) (u := .slice a2 bs.length d2) (by rw [List.getElem?_map, hq]; rfl)
        obtain ⟨_, _, e2, _, q2, _⟩ := hfU.at hp
        obtain ⟨rfl, -, -⟩ : gb = _ ∧ _ ∧ _ := by simpa using e1
        obtain ⟨rfl, -, -⟩ : go = _ ∧ _ ∧ _ := by simpa using e2
        rw [hm] at q1
        simp only at q2
        rw [hm] at q2
        refine ⟨q2, hcU.c 1, q1, fun k hk => ?_⟩
        obtain ⟨g1, y1, e1, r1⟩ := byte_at (hfU.byt i _ hp) (k := k) (by simp only; omega)
        obtain ⟨g2, y2, e2, r2⟩ := byte_at (hcU.byt i _ hq) (k := k) (by simp only; omega)
        simp only at e1 e2 r1 r2
        cases e1
        cases e2
        exact ⟨⟨_, rfl, r1⟩, ⟨_, rfl, r2⟩⟩
      clear hcr hfr hp hq hvn hvb hvs hvo hBe hm
      go_upto_region 6 with fail
      go_quiet (fail)
      obtain ⟨V, hV⟩ : ∃ V, wr.drewN nq = V := ⟨_, rfl⟩
      rw [hV]
      have HVb : Hid (Below w.heap.size w V) := by rw [← hV]; exact ⟨HBe.out.os, HBe.out.tape, HBe.out.output, HBe.out.size, HBe.out.block⟩
      clear hV kn ks ko0 ko2 c0 c2 he1 he2 he3 kb ko1 c1
      go_wp2
      go_loopw [6] (fun v wr => Sj w m v wr) (fun v _ => m - (intOf v).toNat)
      case atStart => exact ⟨0, rfl, by omega, HVb.out⟩
      case round =>
        obtain ⟨k, rfl, hk, hBk⟩ := hrel
        have HBk : Hid (Below w.heap.size w wr) := hBk
        obtain ⟨k1, k2, k3, k4⟩ := HB1.out wr hBk
        clear hBk
        by_cases hkm : k = m
        · have hkm2 := hkm.symm
          clear hkm
          subst hkm2
          have hzk : ¬ (m : Int) < (m : Int) := by omega
          clear k4
          go_wp2
          exact ⟨⟨i + 1, by simp, by omega, HBk.out⟩, by simp [intOf]; omega⟩
        · have hzk : (k : Int) < (m : Int) := by omega
          have hk0 : (0 : Int) ≤ (k : Int) := by omega
          have hwk : IntKind.i64.wrap ((k : Int) + 1) = (k : Int) + 1 := by rw [IntKind.wrap_i64]; omega
          obtain ⟨⟨g1, rfl, r1⟩, ⟨g2, rfl, r2⟩⟩ := k4 k (by omega)
          generalize bs.getD k 0 = y at r1 r2
          have hey : (y != y) = false := by simp
          clear k4
          go_upto_region 11 with fail
          go_quiet (fail)
          obtain ⟨V5, hV5⟩ : ∃ V5, wr.drewN nq = V5 := ⟨_, rfl⟩
          rw [hV5]
          have HV5 : Hid (Below w.heap.size w V5) := by rw [← hV5]; exact ⟨HBk.out.os, HBk.out.tape, HBk.out.output, HBk.out.size, HBk.out.block⟩
          clear hV5 r1 r2 k1 k2 k3
          go_wp2
          exact ⟨⟨k + 1, by simp, by omega, HV5.out⟩, by simp [intOf]; omega⟩

end Go.Proofs.YticdedcgmofpjaaDoor.K
