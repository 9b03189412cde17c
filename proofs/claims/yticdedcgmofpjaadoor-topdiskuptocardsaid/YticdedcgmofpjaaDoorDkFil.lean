import Derived.Test.YticdedcgmofpjaaDoorDkHan2
namespace Go.Proofs.YticdedcgmofpjaaDoor.K
open Go.RowKit
set_option linter.unusedVariables false
set_option linter.unusedSimpArgs false

/-- Files as copies: a row, each one's bytes. -/
structure Fo (w : World) (v : Value) (L : List Fv) : Prop where
  row : w.ownsRow 0 66 3 v L.length (L.flatMap fcell)
  byt : ∀ (i : Nat) p, L[i]? = some p → w.ownsRow 0 5 1 p.2 p.1.bs.length (p.1.bs.map (Value.int .u8))
def Fj (w : World) (n : Nat) (fs : List Fl) (v3 v : Value) (wr : World) : Prop := ∃ (i : Nat) (Lo : List Fv), v = .int .i64 i ∧ i ≤ n ∧ Fo wr v3 Lo ∧ Lo.map (·.1) = fs.take i ∧ (∀ g, v3.ownBlock = some g → w.heap.size ≤ g) ∧ Below w.heap.size w wr
def FilP (fs : List Fl) (w : World) (e : Ending) (w' : World) : Prop := ∃ v L, e = .returned v ∧ Fo w' v L ∧ L.map (·.1) = fs ∧ Below w.heap.size w w'

set_option maxHeartbeats 8000000 in
set_option maxRecDepth 100000 in
theorem dFiles_any (w : World) (b x : Nat) (F : Nat → Prop) (D : Dk) (B : Nat) (hd : Dm w x F D) (hk : D.Ok B) (hB : B ≤ 1099511627776) (h : w.cell? ⟨b, 0, none⟩ = some (.pointer (some ⟨x, 0, none⟩))) : Calls Tryd.prog 20 #[.pointer (some ⟨b, 0, none⟩)] w fun e w' => FilP D.fs w e w' := by
  obtain ⟨n, hn⟩ : ∃ n, D.fs.length = n := ⟨_, rfl⟩
  obtain ⟨vf, L, hc⟩ := hd
  have hnb : n ≤ 1099511627776 := by have := hk.len; omega
  obtain ⟨af, cf, hv⟩ := d_shape hc.row
  rw [← hc.len, hn] at hv
  subst hv
  have c0 : w.cell? ⟨x, 0, none⟩ = some (.slice af n cf) := hc.c 0
  have HC : Hid (Dc w x F D (.slice af n cf) L) := hc
  have HN : Hid (D.fs.length = n) := hn
  have HK : Hid (D.Ok B) := hk
  clear hc hn hk
  go_enter Tryd.func20, Tryd.ntmps20
  go_wp2
  clear c0 h
  go_loopw [3, 14] (fun v3 v wr => Fj w n D.fs v3 v wr) (fun _ v _ => n - (intOf v).toNat)
  case atStart => exact ⟨0, [], rfl, by omega, ⟨World.ownsRow_nil _ _ _ _, fun i p hp => by simp at hp⟩, by simp, fun g hg => (by cases hg), Below.refl _ _⟩
  case round =>
    obtain ⟨i, Lo, rfl, hi, hFo, hLo, hvo, hBe⟩ := hrel
    by_cases hin : i = n
    · have HR : Hid (Fo wr u3 Lo ∧ Lo.map (·.1) = D.fs ∧ Below w.heap.size w wr) := ⟨hFo, by rw [hLo, List.take_of_length_le (by have := HN.out; omega)], hBe⟩
      have hin2 := hin.symm
      clear hin
      subst hin2
      have hz : ¬ (n : Int) < (n : Int) := by omega
      clear hFo hLo hvo hBe
      go_wp2
      go_ret
      exact ⟨_, Lo, rfl, HR.out⟩
    · have hz : (i : Int) < (n : Int) := by omega
      have hi0 : (0 : Int) ≤ (i : Int) := by omega
      have hwi : IntKind.i64.wrap ((i : Int) + 1) = (i : Int) + 1 := by rw [IntKind.wrap_i64]; omega
      obtain ⟨p, hp⟩ : ∃ p, L[i]? = some p := ⟨_, List.getElem?_eq_getElem (by rw [← HC.out.len, HN.out]; omega)⟩
      have hcr := HC.out.same (w' := wr) (fun k _ hk => hBe.block k hk)
      obtain ⟨gF, cfx, hv, hFg, hgl, k0, k1, k2, kz⟩ := hcr.at hp
      obtain ⟨rfl, _, rfl⟩ : af = some ⟨gF, 0, none⟩ ∧ n = L.length ∧ cf = cfx := by simpa using hv
      obtain ⟨av, cv, hav⟩ := d_shape (hcr.byt i p hp)
      have hpf := HC.out.file hp
      have hfl : p.1.bs.length ≤ 1099511627776 := by have := usd_get hpf; have := HK.out.used; omega
      obtain ⟨⟨nm, bs, sf⟩, pv⟩ := p
      simp only at hav k0 k1 k2 hpf hfl
      subst hav
      obtain ⟨ao, co, hu3⟩ := d_shape hFo.row
      have hlo : Lo.length = i := by
        have := congrArg List.length hLo
        rw [List.length_map, List.length_take, HN.out] at this
        omega
      rw [hlo] at hu3
      subst hu3
      have HRw : Hid (∀ V : World, wr.grownBy V none → V.ownsRow 0 5 1 (.slice av bs.length cv) bs.length (bs.map (Value.int .u8))) := fun V hV => d_blk (hcr.byt i _ hp) (fun g hg => hV.block g (d_lt (hcr.byt i _ hp) g hg).2 (by simp))
      have HFo : Hid (Fo wr (.slice ao i co) Lo ∧ Lo.length = i ∧ Lo.map (·.1) = D.fs.take i ∧ (∀ g, (Value.slice ao i co).ownBlock = some g → w.heap.size ≤ g) ∧ Below w.heap.size w wr ∧ D.fs[i]? = some ⟨nm, bs, sf⟩ ∧ bs.length ≤ 1099511627776) := ⟨hFo, hlo, hLo, hvo, hBe, hpf, hfl⟩
      clear hcr hp hv hFo hlo hLo hvo hBe hpf hfl kz
      obtain ⟨V, hV⟩ : ∃ V, wr.alloc (.cells #[.string nm, .slice av bs.length cv, .int .i64 sf] 66) = V := ⟨_, rfl⟩
      obtain ⟨bb, hbb⟩ : ∃ g, wr.heap.size = g := ⟨_, rfl⟩
      have HV : Hid (wr.grownBy V none ∧ V.cell? ⟨bb, 0, none⟩ = some (.string nm) ∧ V.cell? ⟨bb, 1, none⟩ = some (.slice av bs.length cv) ∧ V.cell? ⟨bb, 2, none⟩ = some (.int .i64 sf) ∧ V.heap.size = bb + 1 ∧ wr.heap.size = bb) := by
        rw [← hV, ← hbb]
        exact ⟨World.grownBy_alloc wr _ _, by simp, by simp, by simp, by simp, rfl⟩
      go_wp2_with fail
      clear hV hbb k0 k1 k2
      obtain ⟨hg, q0, q1, q2, hs, hbs⟩ := HV.out
      have hvd : ∀ U : World, V.drew.grownBy U (Value.slice none 0 0).ownBlock → V.grownBy U none := fun U hU => ⟨hU.os, hU.tape, hU.output, hU.size, hU.block⟩
      obtain ⟨l1, l2, _, _⟩ := lies_own (HRw.out V hg)
      have hbt : (Value.slice ao i co).ownBlock ≠ some bb := fun e => by
        have := (d_lt HFo.out.1.row bb e).2
        omega
      refine regFi5 _ bb i nm sf av bs.length cv bs (.slice ao i co) (Lo.flatMap fcell) V rfl l1 l2 HFo.out.2.2.2.2.2.2 (by omega) (fun U hU => ?_) ⟨_, _, rfl⟩ (fun U hU ro hro U2 hU2 => ?_) ?_
      · have h1 := HFo.out.1.row
        rw [HFo.out.2.1] at h1
        exact d_blk h1 (fun g hg' => ((hvd U hU).block g (by have := (d_lt HFo.out.1.row g hg').2; omega) (by simp)).trans (hg.block g (d_lt HFo.out.1.row g hg').2 (by simp)))
      · have hne : ro ≠ some bb := by
          rcases hro with e | e
          · rw [e]; simp
          · rw [e]; exact hbt
        exact ⟨grown_cell (grown_cell q0 (hvd U hU) (by simp)) hU2 hne, grown_cell (grown_cell q1 (hvd U hU) (by simp)) hU2 hne, grown_cell (grown_cell q2 (hvd U hU) (by simp)) hU2 hne⟩
      · intro v1 w1 v2 w2 r1 r2 r3 r4 r5 r6
        have HE : Hid (Fj w n D.fs v2 (.int .i64 ((i : Int) + 1)) w2) := by
          obtain ⟨f1, f2, f3, f4, f5, f6, f7⟩ := HFo.out
          have g1 := hvd w1 r2
          have s1 := g1.size
          have s2 := r5.size
          have s3 := f5.size
          have hvv : ∀ g, v1.ownBlock = some g → V.heap.size ≤ g := fun g hg' => by
            rcases r3 with e | e
            · rw [e] at hg'; cases hg'
            · rw [e] at hg'
              have : V.drew.heap.size = g := Option.some.inj hg'
              have h9 : V.drew.heap.size = V.heap.size := rfl
              omega
          have nvo : ∀ g, (Value.slice ao i co).ownBlock = some g → w.heap.size ≤ g ∧ g < wr.heap.size := fun g hg' => ⟨f4 g hg', (d_lt f1.row g hg').2⟩
          refine ⟨i + 1, Lo ++ [(⟨nm, bs, sf⟩, v1)], by simp, by omega, ⟨?_, fun j p hp => ?_⟩, ?_, fun g hg' => ?_, ?_⟩
          · rw [List.length_append, f2, List.flatMap_append]; exact r4
          · rcases Nat.lt_or_ge j Lo.length with e | e
            · rw [List.getElem?_append_left e] at hp
              have hb := f1.byt j p hp
              have hrow := f1.row
              rw [f2] at hrow
              exact d_blk hb (fun g hg' => (r5.block g (by have := (d_lt hb g hg').2; omega) (fun e2 => d_apart hrow hb (by decide) e2.symm hg')).trans ((g1.block g (by have := (d_lt hb g hg').2; omega) (by simp)).trans (hg.block g (d_lt hb g hg').2 (by simp))))
            · rw [List.getElem?_append_right e] at hp
              rcases Nat.eq_zero_or_pos (j - Lo.length) with e2 | e2
              · rw [e2] at hp
                simp at hp
                subst hp
                exact d_blk r1 (fun g hg' => r5.block g (d_lt r1 g hg').2 (fun e3 => by have h1 := (nvo g e3.symm).2; have h2 := hvv g hg'; omega))
              · rw [List.getElem?_eq_none (by simp; omega)] at hp; cases hp
          · rw [List.map_append, f3, List.take_add_one, f6]; rfl
          · rcases r6 with e | ⟨g', e, hl⟩
            · exact f4 g (e ▸ hg')
            · have : g' = g := Option.some.inj (e.symm.trans hg')
              omega
          · exact ⟨r5.os.trans (g1.os.trans (hg.os.trans f5.os)), r5.tape.trans (g1.tape.trans (hg.tape.trans f5.tape)), r5.output.trans (g1.output.trans (hg.output.trans f5.output)), by omega, fun k hk => (r5.block k (by omega) (fun e => by have := (nvo k e.symm).1; omega)).trans ((g1.block k (by omega) (by simp)).trans ((hg.block k (by omega) (by simp)).trans (f5.block k hk)))⟩
        clear r1 r2 r3 r4 r5 r6 HV HRw HFo hvd q0 q1 q2 hg l1 l2
        go_wp2
        exact ⟨HE.out, by simp [intOf]; omega⟩

end Go.Proofs.YticdedcgmofpjaaDoor.K
