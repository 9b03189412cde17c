import Derived.Test.YtllhbhogfffedaaGreatDoorDkHand
import Derived.Test.YtllhbhogfffedaaGreatDoorJkIs
namespace Go.Proofs.YtllhbhogfffedaaGreatDoor.K
open Go.RowKit
set_option linter.unusedVariables false
set_option linter.unusedSimpArgs false

/-- Files as copies: a row, each one's bytes. -/
structure Fo (w : World) (v : Value) (L : List Fv) : Prop where
  row : w.ownsRow 0 75 3 v L.length (L.flatMap fcell)
  byt : ∀ (i : Nat) p, L[i]? = some p → w.ownsRow 0 5 1 p.2 p.1.bs.length (p.1.bs.map (Value.int .u8))
def Fj (w : World) (n : Nat) (fs : List Fl) (v3 v : Value) (wr : World) : Prop := ∃ (i : Nat) (Lo : List Fv), v = .int .i64 i ∧ i ≤ n ∧ Fo wr v3 Lo ∧ Lo.map (·.1) = fs.take i ∧ (∀ g, v3.ownBlock = some g → w.heap.size ≤ g) ∧ Below w.heap.size w wr
def FilP (fs : List Fl) (w : World) (e : Ending) (w' : World) : Prop := ∃ v L, e = .returned v ∧ Fo w' v L ∧ L.map (·.1) = fs ∧ Below w.heap.size w w'

set_option maxHeartbeats 8000000 in
set_option maxRecDepth 100000 in
theorem dFiles_any (w : World) (b x : Nat) (F : Nat → Prop) (D : Dk) (B : Nat) (hd : Dm w x F D) (hk : D.Ok B) (hB : B ≤ 1099511627776) (h : w.cell? ⟨b, 0, none⟩ = some (.pointer (some ⟨x, 0, none⟩))) : Calls Tryz.prog 28 #[.pointer (some ⟨b, 0, none⟩)] w fun e w' => FilP D.fs w e w' := by
  obtain ⟨n, hn⟩ : ∃ n, D.fs.length = n := ⟨_, rfl⟩
  obtain ⟨vf, L, hc⟩ := hd
  have hnb : n ≤ 1099511627776 := by have := hk.len; omega
  obtain ⟨af, cf, hv⟩ := d_shape hc.row
  rw [← hc.len, hn] at hv
  subst hv
  have c0 : w.cell? ⟨x, 0, none⟩ = some (.slice af n cf) := hc.c 0
  have HC : Hid (Dc w x F D (.slice af n cf) L) := hc
  have HN : Hid (D.fs.length = n) := hn
  have HK : Hid (D.Ok B) := hk
  clear hc hn hk
  go_enter Tryz.func28, Tryz.ntmps28
  go_wp2
  clear c0 h
  go_loopw [3, 14] (fun v3 v wr => Fj w n D.fs v3 v wr) (fun _ v _ => n - (intOf v).toNat)
  case atStart => exact ⟨0, [], rfl, by omega, ⟨World.ownsRow_nil _ _ _ _, fun i p hp => by simp at hp⟩, by simp, fun g hg => (by cases hg), Below.refl _ _⟩
  case round =>
    obtain ⟨i, Lo, rfl, hi, hFo, hLo, hvo, hBe⟩ := hrel
    by_cases hin : i = n
    · have HR : Hid (Fo wr u3 Lo ∧ Lo.map (·.1) = D.fs ∧ Below w.heap.size w wr) := ⟨hFo, by rw [hLo, List.take_of_length_le (by have := HN.out; omega)], hBe⟩
      have hin2 := hin.symm
      clear hin
      subst hin2
      have hz : ¬ (n : Int) < (n : Int) := by omega
      clear hFo hLo hvo hBe
      go_wp2
      go_ret
      exact ⟨_, Lo, rfl, HR.out⟩
    · have hz : (i : Int) < (n : Int) := by omega
      have hi0 : (0 : Int) ≤ (i : Int) := by omega
      have hwi : IntKind.i64.wrap ((i : Int) + 1) = (i : Int) + 1 := by rw [IntKind.wrap_i64]; omega
      obtain ⟨p, hp⟩ : ∃ p, L[i]? = some p := ⟨_, List.getElem?_eq_getElem (by rw [← HC.out.len, HN.out]; omega)⟩
      have hcr := HC.out.same (w' := wr) (fun k _ hk => hBe.block k hk)
      obtain ⟨gF, cfx, hv, hFg, hgl, k0, k1, k2, kz⟩ := hcr.at hp
      obtain ⟨rfl, _, rfl⟩ : af = some ⟨gF, 0, none⟩ ∧ n = L.length ∧ cf = cfx := by simpa using hv
      obtain ⟨av, cv, hav⟩ := d_shape (hcr.byt i p hp)
      have hpf := HC.out.file hp
      have hfl : p.1.bs.length ≤ 1099511627776 := by have := usd_get hpf; have := HK.out.used; omega
      obtain ⟨⟨nm, bs, sf⟩, pv⟩ := p
      simp only at hav k0 k1 k2 hpf hfl
      subst hav
      obtain ⟨ao, co, hu3⟩ := d_shape hFo.row
      have hlo : Lo.length = i := by
        have := congrArg List.length hLo
        rw [List.length_map, List.length_take, HN.out] at this
        omega
      rw [hlo] at hu3
      subst hu3
      have HRw : Hid (∀ V : World, wr.grownBy V none → V.ownsRow 0 5 1 (.slice av bs.length cv) bs.length (bs.map (Value.int .u8))) := fun V hV => d_blk (hcr.byt i _ hp) (fun g hg => hV.block g (d_lt (hcr.byt i _ hp) g hg).2 (by simp))
      have HFo : Hid (Fo wr (.slice ao i co) Lo ∧ Lo.length = i ∧ Lo.map (·.1) = D.fs.take i ∧ (∀ g, (Value.slice ao i co).ownBlock = some g → w.heap.size ≤ g) ∧ Below w.heap.size w wr ∧ D.fs[i]? = some ⟨nm, bs, sf⟩ ∧ bs.length ≤ 1099511627776) := ⟨hFo, hlo, hLo, hvo, hBe, hpf, hfl⟩
      clear hcr hp hv hFo hlo hLo hvo hBe hpf hfl kz
      obtain ⟨V, hV⟩ : ∃ V, wr.alloc (.cells #[.string nm, .slice av bs.length cv, .int .i64 sf] 75) = V := ⟨_, rfl⟩
      obtain ⟨bb, hbb⟩ : ∃ g, wr.heap.size = g := ⟨_, rfl⟩
      have HV : Hid (wr.grownBy V none ∧ V.cell? ⟨bb, 0, none⟩ = some (.string nm) ∧ V.cell? ⟨bb, 1, none⟩ = some (.slice av bs.length cv) ∧ V.cell? ⟨bb, 2, none⟩ = some (.int .i64 sf) ∧ V.heap.size = bb + 1 ∧ wr.heap.size = bb) := by
        rw [← hV, ← hbb]
        exact ⟨World.grownBy_alloc wr _ _, by simp, by simp, by simp, by simp, rfl⟩
      go_wp2_with fail
      clear hV hbb k0 k1 k2
      obtain ⟨hg, q0, q1, q2, hs, hbs⟩ := HV.out
      have hvd : ∀ U : World, V.drew.grownBy U (Value.slice none 0 0).ownBlock → V.grownBy U none := fun U hU => ⟨hU.os, hU.tape, hU.output, hU.size, hU.block⟩
      obtain ⟨l1, l2, _, _⟩ := lies_own (HRw.out V hg)
      have hbt : (Value.slice ao i co).ownBlock ≠ some bb := fun e => by
        have := (d_lt HFo.out.1.row bb e).2
        omega
      refine regFi5 _ bb i nm sf av bs.length cv bs (.slice ao i co) (Lo.flatMap fcell) V rfl l1 l2 HFo.out.2.2.2.2.2.2 (by omega) (fun U hU => ?_) ⟨_, _, rfl⟩ (fun U hU ro hro U2 hU2 => ?_) ?_
      · have h1 := HFo.out.1.row
        rw [HFo.out.2.1] at h1
        exact d_blk h1 (fun g hg' => ((hvd U hU).block g (by have := (d_lt HFo.out.1.row g hg').2; omega) (by simp)).trans (hg.block g (d_lt HFo.out.1.row g hg').2 (by simp)))
      · have hne : ro ≠ some bb := by
          rcases hro with e | e
          · rw [e]; simp
          · rw [e]; exact hbt
        exact ⟨grown_cell (grown_cell q0 (hvd U hU) (by simp)) hU2 hne, grown_cell (grown_cell q1 (hvd U hU) (by simp)) hU2 hne, grown_cell (grown_cell q2 (hvd U hU) (by simp)) hU2 hne⟩
      · intro v1 w1 v2 w2 r1 r2 r3 r4 r5 r6
        have HE : Hid (Fj w n D.fs v2 (.int .i64 ((i : Int) + 1)) w2) := by
          obtain ⟨f1, f2, f3, f4, f5, f6, f7⟩ := HFo.out
          have g1 := hvd w1 r2
          have s1 := g1.size
          have s2 := r5.size
          have s3 := f5.size
          have hvv : ∀ g, v1.ownBlock = some g → V.heap.size ≤ g := fun g hg' => by
            rcases r3 with e | e
            · rw [e] at hg'; cases hg'
            · rw [e] at hg'
              have : V.drew.heap.size = g := Option.some.inj hg'
              have h9 : V.drew.heap.size = V.heap.size := rfl
              omega
          have nvo : ∀ g, (Value.slice ao i co).ownBlock = some g → w.heap.size ≤ g ∧ g < wr.heap.size := fun g hg' => ⟨f4 g hg', (d_lt f1.row g hg').2⟩
          refine ⟨i + 1, Lo ++ [(⟨nm, bs, sf⟩, v1)], by simp, by omega, ⟨?_, fun j p hp => ?_⟩, ?_, fun g hg' => ?_, ?_⟩
          · rw [List.length_append, f2, List.flatMap_append]; exact r4
          · rcases Nat.lt_or_ge j Lo.length with e | e
            · rw [List.getElem?_append_left e] at hp
              have hb := f1.byt j p hp
              have hrow := f1.row
              rw [f2] at hrow
              exact d_blk hb (fun g hg' => (r5.block g (by have := (d_lt hb g hg').2; omega) (fun e2 => d_apart hrow hb (by decide) e2.symm hg')).trans ((g1.block g (by have := (d_lt hb g hg').2; omega) (by simp)).trans (hg.block g (d_lt hb g hg').2 (by simp))))
            · rw [List.getElem?_append_right e] at hp
              rcases Nat.eq_zero_or_pos (j - Lo.length) with e2 | e2
              · rw [e2] at hp
                simp at hp
                subst hp
                exact d_blk r1 (fun g hg' => r5.block g (d_lt r1 g hg').2 (fun e3 => by have h1 := (nvo g e3.symm).2; have h2 := hvv g hg'; omega))
              · rw [List.getElem?_eq_none (by simp; omega)] at hp; cases hp
          · rw [List.map_append, f3, List.take_add_one, f6]; rfl
          · rcases r6 with e | ⟨g', e, hl⟩
            · exact f4 g (e ▸ hg')
            · have : g' = g := Option.some.inj (e.symm.trans hg')
              omega
          · exact ⟨r5.os.trans (g1.os.trans (hg.os.trans f5.os)), r5.tape.trans (g1.tape.trans (hg.tape.trans f5.tape)), r5.output.trans (g1.output.trans (hg.output.trans f5.output)), by omega, fun k hk => (r5.block k (by omega) (fun e => by have := (nvo k e.symm).1; omega)).trans ((g1.block k (by omega) (by simp)).trans ((hg.block k (by omega) (by simp)).trans (f5.block k hk)))⟩
        clear r1 r2 r3 r4 r5 r6 HV HRw HFo hvd q0 q1 q2 hg l1 l2
        go_wp2
        exact ⟨HE.out, by simp [intOf]; omega⟩

end Go.Proofs.YtllhbhogfffedaaGreatDoor.K

namespace Go.Proofs.YtllhbhogfffedaaGreatDoor.K
open Go.RowKit
set_option linter.unusedVariables false
set_option linter.unusedSimpArgs false

/-- What Read answers: which error. -/
def rdN (D : Dk) (s : ByteArray) : Nat := if D.dw = true then 2 else if fnd D.fs s = none then 3 else 0
def RdP (D : Dk) (s : ByteArray) (aD aF aN : Addr) (w : World) (e : Ending) (w' : World) : Prop := ∃ a n c, e = .returned (.tuple #[.slice a n c, evD aD aF aN (rdN D s)]) ∧ Below w.heap.size w w'

end Go.Proofs.YtllhbhogfffedaaGreatDoor.K

namespace Go.Proofs.YtllhbhogfffedaaGreatDoor.K
open Go.RowKit
set_option linter.unusedVariables false
set_option linter.unusedSimpArgs false

/-- What Read reads. -/
def rdB (D : Dk) (s : ByteArray) : List Int := if D.dw = true then [] else match fnd D.fs s with | none => [] | some i => match D.fs[i]? with | some f => f.bs | none => []
def RdQ (D : Dk) (s : ByteArray) (aD aF aN : Addr) (w : World) (e : Ending) (w' : World) : Prop := ∃ v, e = .returned (.tuple #[v, evD aD aF aN (rdN D s)]) ∧ w'.ownsRow w.heap.size 5 1 v (rdB D s).length ((rdB D s).map (Value.int .u8)) ∧ Below w.heap.size w w'

set_option maxHeartbeats 4000000 in
set_option maxRecDepth 100000 in
theorem dReadB_any (w : World) (d x : Nat) (F : Nat → Prop) (D : Dk) (s : ByteArray) (B : Nat) (aD aF aN : Addr) (h : Dm w x F D) (hk : D.Ok B) (hB : B ≤ 1099511627776) (hd : w.cell? ⟨d, 0, none⟩ = some (.pointer (some ⟨x, 0, none⟩))) (hE : Er w aD aF aN) :
    Calls Tryz.prog 74 #[.pointer (some ⟨d, 0, none⟩), .string s] w fun e w' => RdQ D s aD aF aN w e w' := by
  obtain ⟨K, hK⟩ : ∃ K, fI D.fs s = K := ⟨_, rfl⟩
  have HFn := find_any w x F D s B h hk hB
  rw [hK] at HFn
  have HK : Hid (fI D.fs s = K) := hK
  obtain ⟨_, k5, _, _⟩ := h.dw true
  have e1 : w.cell? ⟨0, 0, none⟩ = some (.iface 218 (.pointer (some aD))) := hE.d
  have e2 : w.cell? ⟨2, 0, none⟩ = some (.iface 218 (.pointer (some aN))) := hE.n
  have HD : Hid (Dm w x F D ∧ D.Ok B) := ⟨h, hk⟩
  obtain ⟨i0, hi0, hs0, hs1, hs2⟩ := info_partsD infoU8
  clear h hk hE hK
  go_enter Tryz.func74, Tryz.ntmps74
  go_upto_region 2 with (go_at_call 59; refine HFn.mono ?_; rintro e w2 ⟨rfl, hw2⟩; rw [hw2]; clear hw2)
  clear HFn
  cases hw : D.dw with
  | true =>
    rw [hw] at k5
    have HR : Hid (rdN D s = 2 ∧ rdB D s = []) := ⟨by unfold rdN; rw [hw]; rfl, by unfold rdB; rw [hw]; rfl⟩
    go_upto_region 3 with fail
    go_quiet (fail)
    go_wp2
    go_ret2
    exact ⟨.slice none 0 0, by rw [HR.out.1]; rfl, by rw [HR.out.2]; exact World.ownsRow_nil _ _ _ _, ⟨rfl, rfl, rfl, Nat.le_refl _, fun _ _ => rfl⟩⟩
  | false =>
    rw [hw] at k5
    cases hf : fnd D.fs s with
    | none =>
      have hK2 : K = -1 := by rw [← HK.out]; exact fI_none hf
      subst hK2
      have HR : Hid (rdN D s = 3 ∧ rdB D s = []) := ⟨by unfold rdN; rw [hw, if_neg (by simp), if_pos hf], by unfold rdB; rw [hw, if_neg (by simp), hf]⟩
      clear hf
      go_upto_region 5 with fail
      go_quiet (fail)
      go_wp2
      go_ret2
      exact ⟨.slice none 0 0, by rw [HR.out.1]; rfl, by rw [HR.out.2]; exact World.ownsRow_nil _ _ _ _, ⟨rfl, rfl, rfl, Nat.le_refl _, fun _ _ => rfl⟩⟩
    | some i =>
      have hK2 : K = (i : Int) := by rw [← HK.out]; exact fI_some hf
      have HR : Hid (rdN D s = 0) := by show _ = _; unfold rdN; rw [hw, if_neg (by simp), hf, if_neg (by simp)]
      have HF : Hid (fnd D.fs s = some i) := hf
      subst hK2
      have hz : ¬ (i : Int) < 0 := by omega
      have hz2 : (0 : Int) ≤ (i : Int) := by omega
      obtain ⟨vf, L, hc⟩ := HD.out.1
      obtain ⟨n, hn⟩ : ∃ n, L.length = n := ⟨_, rfl⟩
      have hin : (i : Int) < (n : Int) := by have := fnd_lt hf; rw [hc.len] at this; omega
      obtain ⟨p, hp⟩ : ∃ p, L[i]? = some p := ⟨_, List.getElem?_eq_getElem (by omega)⟩
      obtain ⟨gF, cf, hv, hFg, hgl, k0, k1, k2, kz⟩ := hc.at hp
      rw [hn] at hv
      subst hv
      have c0 : w.cell? ⟨x, 0, none⟩ = some (.slice (some ⟨gF, 0, none⟩) n cf) := hc.c 0
      obtain ⟨av, cv, hav⟩ := d_shape (hc.byt i p hp)
      have hby := hc.byt i p hp
      have hfl : p.1.bs.length ≤ 1099511627776 := by have := usd_get (hc.file hp); have := HD.out.2.used; omega
      have HQ : Hid (rdB D s = p.1.bs) := by show _ = _; unfold rdB; rw [hw, if_neg (by simp), HF.out]; simp only; rw [hc.file hp]
      obtain ⟨⟨nm, bs, sf⟩, pv⟩ := p
      simp only at hav k1 hby hfl HQ
      subst hav
      obtain ⟨l1, l2, l3, l4⟩ := lies_own hby
      have HL : Hid (Lies .u8 w av bs ∧ (av = none → bs.length = 0 ∧ cv = 0)) := ⟨l1, l2⟩
      clear hc hp hf hn hby l1 l2 l3 l4 k0 k2 kz hFg hgl
      go_wp2_with (at_builtin; refine append_any _ rfl _ _ 35 rfl w.heap.size 5 i0 (.int .u8 0) 1 Tryz.underlying35 hi0 hs0 hs1 hs2 rfl _ _ _ rfl (World.ownsRow_nil _ _ _ _) .u8 av bs.length cv bs rfl HL.out.2 rfl HL.out.1 (by unfold maxLen; omega) (by omega) (Nat.le_refl _) ?_; intro vB w2 o2 g2; obtain ⟨aB, cB, rfl⟩ := d_shape o2; have H2 : Hid (w.grownBy w2 none ∧ w2.ownsRow w.heap.size 5 1 (.slice aB (0 + bs.length) cB) (0 + bs.length) ([] ++ bs.map (Value.int .u8))) := ⟨g2, o2⟩; clear o2 g2; rw [Nat.zero_add] at H2 ⊢)
      go_ret2
      exact ⟨_, by rw [HR.out]; rfl, by rw [HQ.out]; exact H2.out.2, ⟨H2.out.1.os, H2.out.1.tape, H2.out.1.output, H2.out.1.size, fun k hk => H2.out.1.block k hk (fun e => by cases e)⟩⟩

end Go.Proofs.YtllhbhogfffedaaGreatDoor.K

namespace Go.Proofs.YtllhbhogfffedaaGreatDoor.K
open Go.RowKit
set_option linter.unusedVariables false
set_option linter.unusedSimpArgs false

def jN : ByteArray := ⟨#[106, 111, 117, 114, 110, 97, 108]⟩
def jnN : ByteArray := ⟨#[106, 111, 117, 114, 110, 97, 108, 46, 110, 101, 119]⟩
/-- The sentinels lie where they lie, whatever becomes of F. -/
structure Snt (w : World) (F : Nat → Prop) (aD aF aN : Addr) : Prop where
  er : Er w aD aF aN
  nf : Ern F
  df : aD ≠ aF
  dn : aD ≠ aN
  fn : aF ≠ aN
  cD : (∃ (ca : Array Value) (ta : TypeId), w.heap[aD.block]? = some (.cells ca ta (0, 0))) ∧ ¬ F aD.block
  cF : (∃ (ca : Array Value) (ta : TypeId), w.heap[aF.block]? = some (.cells ca ta (0, 0))) ∧ ¬ F aF.block
  cN : (∃ (ca : Array Value) (ta : TypeId), w.heap[aN.block]? = some (.cells ca ta (0, 0))) ∧ ¬ F aN.block
theorem Snt.kd {w V : World} {F : Nat → Prop} {aD aF aN : Addr} (h : Snt w F aD aF aN) (hk : Kd F w V) : Snt V F aD aF aN := by
  have k : ∀ {a : Addr}, ((∃ (ca : Array Value) (ta : TypeId), w.heap[a.block]? = some (.cells ca ta (0, 0))) ∧ ¬ F a.block) → ((∃ (ca : Array Value) (ta : TypeId), V.heap[a.block]? = some (.cells ca ta (0, 0))) ∧ ¬ F a.block) := fun ⟨⟨ca, ta, hh⟩, hn⟩ => ⟨⟨ca, ta, (hk.same _ (Array.getElem?_eq_some_iff.1 hh).1 hn).trans hh⟩, hn⟩
  exact ⟨h.er.kd hk h.nf, h.nf, h.df, h.dn, h.fn, k h.cD, k h.cF, k h.cN⟩
/-- errors.Is(err, ErrNone), of what a call on the disk answers. -/
theorem isNone_any (w : World) (F : Nat → Prop) (aD aF aN : Addr) (r : Nat) (hr : r ≤ 3) (h : Snt w F aD aF aN) : Calls Tryz.prog 43 #[evD aD aF aN r, errV aN] w fun e w' => e = .returned (.bool (decide (r = 3))) ∧ w' = w := by
  obtain ⟨ca, ta, kD⟩ := h.cD.1
  obtain ⟨cb, tb, kF⟩ := h.cF.1
  obtain ⟨cc, tc, kN⟩ := h.cN.1
  match r, hr with
  | 0, _ => exact isNil7 aN w
  | 1, _ => exact isOther7 aF aN _ _ _ _ w h.fn kF kN
  | 2, _ => exact isOther7 aD aN _ _ _ _ w h.dn kD kN
  | 3, _ => exact isSame7 aN w
/-- What a call answers, a missing file forgiven. -/
def rmE (r : Nat) : Nat := if r = 3 then 0 else r
theorem fileD_r (D : Dk) (s : ByteArray) (g : Nat → List Fl) : (fileD D s g).2 ≤ 3 := by
  have ha : actR D ≤ 3 := by unfold actR; split <;> omega
  unfold fileD
  split
  · simp
  · split
    · simp
    · exact ha

set_option maxHeartbeats 4000000 in
set_option maxRecDepth 100000 in
theorem removeRest_any (w : World) (d x : Nat) (F : Nat → Prop) (D : Dk) (B : Nat) (aD aF aN : Addr) (h : Dm w x F D) (hk : D.Ok B) (hB : B ≤ 1099511627776) (hd : w.cell? ⟨d, 0, none⟩ = some (.pointer (some ⟨x, 0, none⟩))) (nd : ¬ F d) (hS : Snt w F aD aF aN) :
    Calls Tryz.prog 39 #[.pointer (some ⟨d, 0, none⟩)] w fun e w' => e = .returned (evD aD aF aN (rmE (fileD D jnN (fun i => D.fs.eraseIdx i)).2)) ∧ Dm w' x (up F w) (fileD D jnN (fun i => D.fs.eraseIdx i)).1 ∧ Kd F w w' := by
  have HA := dRemove_any w d x F D jnN B aD aF aN h hk hB hd nd hS.er hS.nf
  have hr0 := fileD_r D jnN (fun i => D.fs.eraseIdx i)
  obtain ⟨⟨D3, r⟩, hR⟩ : ∃ R : Dk × Nat, fileD D jnN (fun i => D.fs.eraseIdx i) = R := ⟨_, rfl⟩
  rw [hR] at HA hr0 ⊢
  have HS : Hid (Snt w F aD aF aN ∧ r ≤ 3) := ⟨hS, hr0⟩
  unfold MP at HA
  simp only at HA ⊢
  obtain ⟨ev, hev⟩ : ∃ ev, evD aD aF aN r = ev := ⟨_, rfl⟩
  rw [hev] at HA
  unfold jnN at HA
  clear h hk hd nd hS hr0 hR
  go_enter Tryz.func39, Tryz.ntmps39
  go_upto_region 2 with (
    go_at_call 73
    refine HA.mono ?_
    rintro e V2 ⟨rfl, hD2, hK2⟩
    have HV : Hid (Dm V2 x (up F w) D3 ∧ Kd F w V2) := ⟨hD2, hK2⟩
    clear hD2 hK2)
  clear HA
  have HIs := isNone_any V2 F aD aF aN r HS.out.2 (HS.out.1.kd HV.out.2)
  rw [hev] at HIs
  have e3 : V2.cell? ⟨2, 0, none⟩ = some (.iface 218 (.pointer (some aN))) := (HS.out.1.kd HV.out.2).er.n
  unfold errV at HIs
  by_cases h3 : r = 3
  · have hb : decide (r = 3) = true := by simp [h3]
    rw [hb] at HIs
    have HE : Hid (evD aD aF aN (rmE r) = .nilIface) := by show _ = _; rw [h3]; rfl
    go_wp2_with (go_at_call 43; refine HIs.mono ?_; rintro e w9 ⟨rfl, hw9⟩; rw [hw9]; clear hw9)
    go_ret
    exact ⟨by rw [HE.out]; rfl, HV.out.1, HV.out.2⟩
  · have hb : decide (r = 3) = false := by simp [h3]
    rw [hb] at HIs
    have HE : Hid (evD aD aF aN (rmE r) = ev) := by show _ = _; rw [← hev]; unfold rmE; rw [if_neg h3]
    clear hev
    go_wp2_with (go_at_call 43; refine HIs.mono ?_; rintro e w9 ⟨rfl, hw9⟩; rw [hw9]; clear hw9)
    go_ret
    exact ⟨by rw [HE.out]; rfl, HV.out.1, HV.out.2⟩

end Go.Proofs.YtllhbhogfffedaaGreatDoor.K

namespace Go.Proofs.YtllhbhogfffedaaGreatDoor.K
open Go.RowKit
set_option linter.unusedVariables false
set_option linter.unusedSimpArgs false

theorem rdN_r (D : Dk) (s : ByteArray) : rdN D s ≤ 3 := by unfold rdN; split; omega; split <;> omega
theorem rdB_none {D : Dk} {s : ByteArray} (h : rdN D s = 3) : rdB D s = [] := by
  unfold rdN at h
  unfold rdB
  split at h
  · omega
  · split at h
    · rename_i h1 h2
      rw [if_neg h1, h2]
    · omega
def JrP (D : Dk) (aD aF aN : Addr) (w : World) (e : Ending) (w' : World) : Prop := ∃ v, e = .returned (.tuple #[v, evD aD aF aN (rmE (rdN D jN))]) ∧ w'.ownsRow w.heap.size 5 1 v (rdB D jN).length ((rdB D jN).map (Value.int .u8)) ∧ Below w.heap.size w w'

set_option maxHeartbeats 4000000 in
set_option maxRecDepth 100000 in
theorem jread_any (w : World) (d x : Nat) (F : Nat → Prop) (D : Dk) (B : Nat) (aD aF aN : Addr) (h : Dm w x F D) (hk : D.Ok B) (hB : B ≤ 1099511627776) (hd : w.cell? ⟨d, 0, none⟩ = some (.pointer (some ⟨x, 0, none⟩))) (hS : Snt w F aD aF aN) :
    Calls Tryz.prog 40 #[.pointer (some ⟨d, 0, none⟩)] w fun e w' => JrP D aD aF aN w e w' := by
  have HA := dReadB_any w d x F D jN B aD aF aN h hk hB hd hS.er
  have hr0 := rdN_r D jN
  obtain ⟨r, hr⟩ : ∃ r, rdN D jN = r := ⟨_, rfl⟩
  obtain ⟨bs, hbs⟩ : ∃ bs, rdB D jN = bs := ⟨_, rfl⟩
  have hbn : r = 3 → bs = [] := fun e => by rw [← hbs]; exact rdB_none (by rw [hr, e])
  unfold RdQ at HA
  unfold JrP
  rw [hr, hbs] at HA ⊢
  rw [hr] at hr0
  have HS : Hid (Snt w F aD aF aN ∧ r ≤ 3 ∧ (r = 3 → bs = [])) := ⟨hS, hr0, hbn⟩
  obtain ⟨ev, hev⟩ : ∃ ev, evD aD aF aN r = ev := ⟨_, rfl⟩
  rw [hev] at HA
  unfold jN at HA
  clear h hk hd hS hr0 hbn hr hbs
  go_enter Tryz.func40, Tryz.ntmps40
  go_upto_region 2 with (
    go_at_call 74
    refine HA.mono ?_
    rintro e V2 ⟨v, rfl, hO2, hB2⟩
    obtain ⟨a2, c2, hv2⟩ := d_shape hO2
    have HV : Hid (V2.ownsRow w.heap.size 5 1 v bs.length (bs.map (Value.int .u8)) ∧ Below w.heap.size w V2) := ⟨hO2, hB2⟩
    clear hO2 hB2
    generalize hbl : bs.length = m at hv2
    subst hv2)
  clear HA
  have hS2 : Snt V2 F aD aF aN := HS.out.1.kd (Kd.below HV.out.2)
  have HIs := isNone_any V2 F aD aF aN r HS.out.2.1 hS2
  rw [hev] at HIs
  have e3 : V2.cell? ⟨2, 0, none⟩ = some (.iface 218 (.pointer (some aN))) := hS2.er.n
  clear hS2
  unfold errV at HIs
  by_cases h3 : r = 3
  · have hb : decide (r = 3) = true := by simp [h3]
    rw [hb] at HIs
    have HE : Hid (evD aD aF aN (rmE r) = .nilIface ∧ bs = []) := ⟨by rw [h3]; rfl, HS.out.2.2 h3⟩
    clear hbl
    go_wp2_with (go_at_call 43; refine HIs.mono ?_; rintro e w9 ⟨rfl, hw9⟩; rw [hw9]; clear hw9)
    go_ret2
    exact ⟨.slice none 0 0, by rw [HE.out.1]; rfl, by rw [HE.out.2]; exact World.ownsRow_nil _ _ _ _, HV.out.2⟩
  · have hb : decide (r = 3) = false := by simp [h3]
    rw [hb] at HIs
    have HE : Hid (evD aD aF aN (rmE r) = ev) := by show _ = _; rw [← hev]; unfold rmE; rw [if_neg h3]
    clear hev hbl
    go_wp2_with (go_at_call 43; refine HIs.mono ?_; rintro e w9 ⟨rfl, hw9⟩; rw [hw9]; clear hw9)
    go_ret2
    exact ⟨_, by rw [HE.out]; rfl, HV.out.1, HV.out.2⟩

theorem number_nil (w : World) : Calls Tryz.prog 16 #[.nilIface] w fun e w' => e = .returned (.int .i64 0) ∧ Hid (Below w.heap.size w w') := by
  go_enter Tryz.func16, Tryz.ntmps16
  go_wp2
  go_ret
  exact ⟨rfl, (Below.refl _ _).alloc (Nat.le_refl _) _⟩
end Go.Proofs.YtllhbhogfffedaaGreatDoor.K

namespace Go.Proofs.YtllhbhogfffedaaGreatDoor.K
open Go.RowKit
set_option linter.unusedVariables false
set_option linter.unusedSimpArgs false

/-! ## What an act leaves may be -/
theorem mem_set {α : Type} {l : List α} {i : Nat} {x y : α} (h : y ∈ l.set i x) : y ∈ l ∨ y = x := List.mem_or_eq_of_mem_set h
theorem usd_set : ∀ {fs : List Fl} {i : Nat} {f g : Fl}, fs[i]? = some f → usd (fs.set i g) + f.bs.length = usd fs + g.bs.length
  | a :: r, 0, f, g, h => by simp at h; subst h; simp only [List.set_cons_zero, usd]; omega
  | a :: r, i + 1, f, g, h => by
    have := usd_set (fs := r) (i := i) (f := f) (g := g) (by simpa using h)
    simp only [List.set_cons_succ, usd]; omega
structure FsOk (l : List Fl) (B : Nat) : Prop where
  fs : ∀ f ∈ l, f.Ok
  len : l.length ≤ B
  used : usd l ≤ B
theorem Dk.Ok.files {D : Dk} {B : Nat} (h : D.Ok B) : FsOk D.fs B := ⟨h.fs, h.len, h.used⟩
theorem FsOk.up {fs : List Fl} {B C : Nat} (h : FsOk fs B) (hb : B ≤ C) : FsOk fs C := ⟨h.fs, Nat.le_trans h.len hb, Nat.le_trans h.used hb⟩
theorem Dk.Ok.up {D : Dk} {B C : Nat} (h : D.Ok B) (hb : B ≤ C) : D.Ok C := ⟨h.fs, Nat.le_trans h.len hb, Nat.le_trans h.used hb, h.room, h.acts⟩
theorem ok_act {D : Dk} {B C : Nat} {fs : List Fl} (h : D.Ok B) (hf : FsOk fs C) (hb : B ≤ C) : (actD D fs).Ok C := by
  have h' := h.up hb
  unfold actD
  split
  · refine ⟨?_, ?_, ?_, h.room, h.acts⟩ <;> simp only <;> split
    · exact hf.fs
    · exact h'.fs
    · exact hf.len
    · exact h'.len
    · exact hf.used
    · exact h'.used
  · rename_i hb
    refine ⟨hf.fs, hf.len, hf.used, h.room, ?_⟩
    have := h.acts
    simp only
    split
    · rename_i ha
      have h0 : ¬ D.acts = 0 := fun e => hb (by unfold actB; rw [ha, e]; rfl)
      omega
    · omega
theorem fsok_set {fs : List Fl} {B i : Nat} {f g : Fl} (h : FsOk fs B) (hf : fs[i]? = some f) (hg : g.Ok) (hl : g.bs.length ≤ f.bs.length) : FsOk (fs.set i g) B := by
  refine ⟨fun y hy => ?_, by rw [List.length_set]; exact h.len, ?_⟩
  · rcases mem_set hy with h1 | rfl
    · exact h.fs y h1
    · exact hg
  · have := usd_set (g := g) hf
    have := h.used
    omega
theorem fsok_setF {fs : List Fl} {B i : Nat} {g : Fl → Fl} (h : FsOk fs B) (hg : ∀ f, f.Ok → (g f).Ok ∧ (g f).bs.length ≤ f.bs.length) : FsOk (setF fs i g) B := by
  unfold setF
  cases hf : fs[i]? with
  | none => exact h
  | some f =>
    obtain ⟨h1, h2⟩ := hg f (h.fs f (List.mem_of_getElem? hf))
    exact fsok_set h hf h1 h2
theorem usd_erase : ∀ (fs : List Fl) (i : Nat), usd (fs.eraseIdx i) ≤ usd fs
  | [], i => by simp [usd]
  | f :: r, 0 => by simp [usd]
  | f :: r, i + 1 => by
    have := usd_erase r i
    simp only [List.eraseIdx_cons_succ, usd]; omega
theorem fsok_erase {fs : List Fl} {B i : Nat} (h : FsOk fs B) : FsOk (fs.eraseIdx i) B :=
  ⟨fun f hf => h.fs f (List.mem_of_mem_eraseIdx hf), Nat.le_trans (List.length_eraseIdx_le _ _) h.len, Nat.le_trans (usd_erase _ _) h.used⟩
theorem bytey_take {zs : List Int} (h : Bytey zs) (k : Nat) : Bytey (zs.take k) := fun z hz => h z (List.mem_of_mem_take hz)
theorem bytey_app {a b : List Int} (h : Bytey a) (h' : Bytey b) : Bytey (a ++ b) := fun z hz => (List.mem_append.mp hz).elim (h z) (h' z)
theorem fsok_cut {fs : List Fl} {B i : Nat} {N : Int} (h : FsOk fs B) : FsOk (cutF fs i N) B :=
  fsok_setF h (fun f hf => by
    have hk : cutN f N ≤ f.bs.length := by unfold cutN; omega
    refine ⟨⟨bytey_take hf.byt _, by show (0 : Int) ≤ (cutN f N : Int); omega, ?_⟩, ?_⟩
    · show ((cutN f N : Nat) : Int) ≤ ((f.bs.take (cutN f N)).length : Int)
      rw [List.length_take]; omega
    · show (f.bs.take (cutN f N)).length ≤ _
      rw [List.length_take]; omega)
theorem ok_file {D : Dk} {B : Nat} {s : ByteArray} {g : Nat → List Fl} (h : D.Ok B) (hg : ∀ i, FsOk (g i) B) : (fileD D s g).1.Ok B := by
  unfold fileD
  split
  · exact h
  · split
    · exact h
    · exact ok_act h (hg _) (Nat.le_refl _)
theorem usd_map_le {g : Fl → Fl} : ∀ (fs : List Fl), (∀ f ∈ fs, (g f).bs.length ≤ f.bs.length) → usd (fs.map g) ≤ usd fs
  | [], _ => by simp [usd]
  | f :: r, h => by
    have h1 := usd_map_le r (fun y hy => h y (List.mem_cons_of_mem _ hy))
    have h2 := h f (List.mem_cons_self ..)
    simp only [List.map_cons, usd]; omega
theorem ok_cr {D : Dk} {B : Nat} {keep : Int} (h : D.Ok B) : (crD D keep).Ok B := by
  have hM : 0 ≤ nn0 keep := by unfold nn0; split <;> omega
  have hq : ∀ f : Fl, f.Ok → 0 ≤ crQ f (nn0 keep) ∧ f.sf + crQ f (nn0 keep) ≤ f.bs.length := fun f hf => by
    have := hf.lo; have := hf.hi
    unfold crQ
    split <;> omega
  refine ⟨fun y hy => ?_, by show (D.fs.map _).length ≤ B; rw [List.length_map]; exact h.len, ?_, h.room, h.acts⟩
  · obtain ⟨f, hf, rfl⟩ := List.mem_map.mp (show y ∈ D.fs.map (cr1 keep) from hy)
    have h0 := h.fs f hf
    have h1 := hq f h0
    have := h0.lo
    refine ⟨bytey_take h0.byt _, by show (0 : Int) ≤ f.sf + crQ f (nn0 keep); omega, ?_⟩
    show f.sf + crQ f (nn0 keep) ≤ ((f.bs.take (f.sf + crQ f (nn0 keep)).toNat).length : Int)
    rw [List.length_take]
    omega
  · exact Nat.le_trans (usd_map_le _ (fun f _ => by show (f.bs.take _).length ≤ _; rw [List.length_take]; omega)) h.used
theorem ok_arm {D : Dk} {B : Nat} {N : Int} {dn : Bool} (h : D.Ok B) (hN : N ≤ 9223372036854775807) : (armD D N dn).Ok B :=
  ⟨h.fs, h.len, h.used, h.room, by show 0 ≤ nn0 N ∧ nn0 N ≤ _; unfold nn0; split <;> omega⟩
theorem ok_dk0 {M : Int} (h : 0 ≤ M ∧ M ≤ 9223372036854775807) : (dk0 M).Ok 0 := ⟨fun f hf => absurd hf (by simp [dk0]), Nat.le_refl _, Nat.le_refl _, h, ⟨Int.le_refl _, by show (0 : Int) ≤ 9223372036854775807; omega⟩⟩
end Go.Proofs.YtllhbhogfffedaaGreatDoor.K
